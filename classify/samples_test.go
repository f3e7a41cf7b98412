package classify_test

import (
	"fmt"
	"math/rand"
	"strings"

	"sluicegate/api"
)

func word(kind int, s string) api.Word {
	return api.Word{Kind: kind, Text: s}
}

func name(s string) api.Word {
	return word(api.WordName, s)
}

func quotedName(s string) api.Word {
	return word(api.WordQuoted, s)
}

func text(s string) api.Word {
	return word(api.WordText, s)
}

func number(s string) api.Word {
	return word(api.WordNumber, s)
}

func sign(s string) api.Word {
	return word(api.WordSign, s)
}

// kind is a class that has nothing else.
func kind(k int) api.Class {
	return api.Class{Kind: k}
}

func odd() api.Class {
	return kind(api.ClassOdd)
}

func named(k int, name string) api.Class {
	return api.Class{Kind: k, Name: name}
}

func set(name, value string) api.Class {
	return api.Class{Kind: api.ClassSet, Name: name, Value: value}
}

func userVar(name, value string) api.Class {
	return api.Class{Kind: api.ClassUserVar, Name: name, Value: value}
}

// list is a list that is written out.
func list[T any](l ...T) []T {
	return l
}

// brief is something as a test tells it, cut where it is long.
func brief(x any) string {
	s := fmt.Sprintf("%+q", x)
	if len(s) > 300 {
		return fmt.Sprintf("%s.. (%d)", s[:300], len(s))
	}
	return s
}

// statements are some of each class.
func statements() map[string]api.Class {
	return map[string]api.Class{
		"select get_lock('l', 5)": named(api.ClassLock, "l"), "lock tables s.t read, u write": named(api.ClassLock, "s.t"), "lock table t": named(api.ClassLock, "t"),
		"select release_all_locks()": kind(api.ClassUnlock), "unlock tables": kind(api.ClassUnlock), "unlock table": kind(api.ClassUnlock),
		"begin": kind(api.ClassBegin), "begin work": kind(api.ClassBegin), "start transaction read only": kind(api.ClassBegin), "start transaction": kind(api.ClassBegin),
		"commit": kind(api.ClassEnd), "commit work": kind(api.ClassEnd), "rollback": kind(api.ClassEnd), "rollback work": kind(api.ClassEnd),
		"set @a = -5": userVar("a", "-5"), "set @`b c` = 'D'": userVar("b c", "D"),
		"set session a = 1": set("a", "1"), "set local a = on": set("a", "on"), "set a = 'x'": set("a", "x"), "set @@a = `X`": set("a", "X"), "set @@session.a = + 1.5": set("a", "+1.5"), "set @@local.a = 0x1F": set("a", "0x1F"),
		"set names utf8mb4": set("names", "utf8mb4"), "set names 'x'": set("names", "x"),
		"use d": named(api.ClassUse, "d"), "use `D e`": named(api.ClassUse, "D e"),
		"create temporary table if not exists s.t (a int)": named(api.ClassTemp, "s.t"), "create temporary table t select 1": named(api.ClassTemp, "t"),
		"drop temporary table if exists s.t": named(api.ClassDropTemp, "s.t"), "drop temporary table `T`": named(api.ClassDropTemp, "T"),
		"load data local infile 'f' into table t": kind(api.ClassFile),
		"insert into t values (1)":                kind(api.ClassWrite), "replace into t set a = 1": kind(api.ClassWrite), "update t set a = 1": kind(api.ClassWrite), "create table t (a int)": kind(api.ClassWrite), "set global a = 1": kind(api.ClassWrite),
		"select 1 for update": kind(api.ClassWrite), "select 1 for share": kind(api.ClassWrite), "select 1 lock in share mode": kind(api.ClassWrite),
		"select 1": kind(api.ClassRead), "( select 1 )": kind(api.ClassRead), "show tables": kind(api.ClassRead), "savepoint p": kind(api.ClassRead), "release savepoint p": kind(api.ClassRead), "rollback to p": kind(api.ClassRead), "rollback work to p": kind(api.ClassRead),
		"set a = 1, b = 2": odd(), "set autocommit = 0": odd(), "flush tables": odd(), "select @a := 1": odd(), "/*! select 1 */": odd(), "xa start 'x'": odd(), "select is_free_lock('l')": odd(),
	}
}

// strs is each text of at most n of the pieces, with blanks between, behind a beginning.
func strs(n int, begin string, pieces ...string) func(yield func(string) bool) {
	return func(yield func(string) bool) {
		var grow func(s string, left int) bool
		grow = func(s string, left int) bool {
			if !yield(s) {
				return false
			}
			if left == 0 {
				return true
			}
			for _, p := range pieces {
				if !grow(s+" "+p, left-1) {
					return false
				}
			}
			return true
		}
		grow(begin, n)
	}
}

// families are beginnings, and the words of which all short statements behind them are looked at.
func families() []struct {
	n             int
	begins, words string
} {
	return []struct {
		n             int
		begins, words string
	}{
		{3, "", "set session local global names a `B` @x @@y @@session.z = 'v' 5 -"},
		{4, "set", "session local global names a `B` @x @@y @@session.z = 'v' 5 - +"},
		{4, "set session|set @@a|set @x|set a|set names|set local names|set global", "= 5 'v' - + a , names session"},
		{4, "select|lock", "get_lock release_all_locks is_free_lock ( ) 'l' 5 , table tables t"},
		{5, "select get_lock|select get_lock ( 'l'|select release_all_locks", "( ) 'l' 5 , - a"},
		{4, "", "lock unlock table tables t `U` . read"},
		{4, "create temporary table|drop temporary table|lock tables", "if not exists t `U` . ( 1"},
		{4, "", "create drop temporary table if exists t ."},
		{4, "", "begin work start transaction commit rollback to release savepoint"},
		{4, "select|with|( select|x", "for update share lock in mode 1 `update`"},
		{4, "", "insert replace into load data local infile 'f'"},
		{2, "load data local infile|load data|insert|replace|select", "into insert replace load outfile do t local"},
		{3, "", "use d `D` 'd' . 1 (  select"},
		{5, "", "; begin x /*!*/ :="},
	}
}

// fragments are what texts are drawn of.
func fragments() []string {
	l := strings.Fields(oddNames + " " + lockingNames + " " + writingNames + " " + readingNames)
	return append(l, strings.Fields(
		"set session local global names @a @`B` @@c @@session.d @@local.e @@global.f @@1 @@g.h = := , ( ) . ; - + * ? 'v' \"w\" 5 1.5 0x1F "+
			"autocommit transaction password role sql_log_bin sql_mode `AutoCommit` `X` t u lock unlock tables begin work start commit rollback to release for share in mode "+
			"use temporary if not exists exists data infile /*r*/ /*!1*/ on default",
	)...)
}

// drawnText is of some fragments, or of a statement of some class with a few of them put in.
func drawnText(r *rand.Rand, some []string) string {
	l := fragments()
	var parts []string
	for range 1 + r.Intn(3) {
		if r.Intn(4) > 0 {
			parts = append(parts, strings.Fields(some[r.Intn(len(some))])...)
		}
		for range r.Intn(3) {
			at := r.Intn(len(parts) + 1)
			parts = append(parts[:at], append(list(l[r.Intn(len(l))]), parts[at:]...)...)
		}
		if r.Intn(3) == 0 {
			parts = append(parts, ";")
		}
	}
	return strings.Join(parts, " ")
}

// drawnBytes is of any bytes, many of them such as mean something between quotes.
func drawnBytes(r *rand.Rand) string {
	b := make([]byte, r.Intn(8))
	for i := range b {
		b[i] = byte(r.Intn(256))
		if r.Intn(2) == 0 {
			b[i] = "`'\"\\;AZ/"[r.Intn(8)]
		}
	}
	return string(b)
}

// drawnWord is of any kind, one that is none too, and says anything.
func drawnWord(r *rand.Rand) api.Word {
	l := fragments()
	w := api.Word{Kind: r.Intn(12) - 1, Text: l[r.Intn(len(l))], At: r.Intn(9)}
	if r.Intn(8) == 0 {
		w.Text = drawnBytes(r)
	}
	return w
}
