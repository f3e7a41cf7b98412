package classify_test

import (
	"maps"
	"math"
	"math/rand"
	"slices"
	"strings"
	"testing"

	"sluicegate/api"
	"sluicegate/classify"
	"sluicegate/scan"
)

func wantOf(t *testing.T, s string, want ...api.Class) {
	t.Helper()
	if got, f := classify.Of(s); !slices.Equal(got, want) || f != (api.Fault{}) {
		t.Errorf("Of of %s: %s, %v, want %s", brief(s), brief(got), f, brief(want))
	}
}

func wantFault(t *testing.T, s string, e api.Errno, at int) {
	t.Helper()
	if got, f := classify.Of(s); len(got) != 0 || f != (api.Fault{Err: e, At: at}) {
		t.Errorf("Of of %s: %s, %v, want %v at %d", brief(s), brief(got), f, e, at)
	}
}

// wantPlain asks that a text's statements are classed as the chapter classes them.
func wantPlain(t *testing.T, s string) {
	t.Helper()
	want, wantF := plainOf(s)
	if got, f := classify.Of(s); !slices.Equal(got, want) || f != wantF {
		t.Errorf("Of of %s: %s, %v, want %s, %v", brief(s), brief(got), f, brief(want), wantF)
	}
}

func wantOne(t *testing.T, l []api.Word, want api.Class) {
	t.Helper()
	if got := classify.One(l); got != want {
		t.Errorf("One of %s: %s, want %s", brief(l), brief(got), brief(want))
	}
}

func wantAnew(t *testing.T, c api.Class, want string, wantOk bool) {
	t.Helper()
	if got, ok := classify.Anew(c); got != want || ok != wantOk {
		t.Errorf("Anew of %s: %s, %v, want %s, %v", brief(c), brief(got), ok, brief(want), wantOk)
	}
}

func TestExamples(t *testing.T) {
	wantOf(t, "SELECT 1; set session sql_mode='x'", kind(api.ClassRead), set("sql_mode", "x"))
	wantOf(t, "SET @a = -5; set a = 1, b = 2; SET autocommit=0", userVar("a", "-5"), odd(), odd())
	wantOf(t, "create temporary table s.t (a int); drop table t", named(api.ClassTemp, "s.t"), kind(api.ClassWrite))
	wantOf(t, "select get_lock('l', 5); select get_lock('l', 5), 1", named(api.ClassLock, "l"), odd())
	wantOf(t, "/*!40101 SET x=1*/; select last_insert_id(); select `warnings`", odd(), odd(), kind(api.ClassRead))
	wantOf(t, "START TRANSACTION READ ONLY; rollback to p; savepoint p; xa start 'x'", kind(api.ClassBegin), kind(api.ClassRead), kind(api.ClassRead), odd())
}

// TestP20_1Statements has some of each class, alone, in great letters, and in a row.
func TestP20_1Statements(t *testing.T) {
	var all []string
	var classes []api.Class
	for _, s := range slices.Sorted(maps.Keys(statements())) {
		want := statements()[s]
		wantOf(t, s, want)
		wantOf(t, " ;; "+s+" ; ;", want)
		all, classes = append(all, s), append(classes, want)
	}
	wantOf(t, strings.Join(all, ";"), classes...)
	wantOf(t, strings.Join(all, " ; ; "), classes...)
}

func TestP20_1Nothing(t *testing.T) {
	for _, s := range list("", " ", ";", " ; ; ", "-- x", "/* select 1 */ ; # begin") {
		wantOf(t, s)
	}
}

func TestP20_1Faults(t *testing.T) {
	wantFault(t, "select 'a", api.ErrQuote, 7)
	wantFault(t, "select 1; use `d", api.ErrQuote, 14)
	wantFault(t, "begin; \x00", api.ErrByte, 7)
	wantFault(t, "set @ = 1", api.ErrByte, 4)
	wantFault(t, "/* select 1", api.ErrQuote, 0)
	wantFault(t, "/*! select 1", api.ErrQuote, 0)
	wantFault(t, "\xff 'x", api.ErrByte, 0)
	const most = 1 << 20
	wantOf(t, "begin"+strings.Repeat(" ", most-5), kind(api.ClassBegin))
	wantFault(t, "begin"+strings.Repeat(" ", most-4), api.ErrLong, -1)
	wantFault(t, strings.Repeat("'", most+1), api.ErrLong, -1)
}

func TestP20_1OddWords(t *testing.T) {
	for _, s := range strings.Fields(oddNames) {
		for _, x := range list("select "+s, "select a."+s, "select "+s+"()", "insert t "+s, "begin "+s, "set a = "+s, "use "+s, s, s+" 1", strings.ToUpper(s), "show "+s, "x y "+s, "lock tables "+s, "select get_lock('a', 1) "+s) {
			wantOf(t, x, odd())
		}
		wantOf(t, "select `"+s+"`, '"+s+"', @"+s+", @@"+s+", "+s+"1", kind(api.ClassRead))
		wantOf(t, "set a = `"+s+"`", set("a", s))
		wantOf(t, "set `"+s+"` = 1", set(s, "1"))
		wantOf(t, "set @"+s+" = '"+s+"'", userVar(s, s))
		wantOf(t, "set @@"+s+" = 1", set(s, "1"))
		wantOf(t, "use `"+s+"`; begin", named(api.ClassUse, s), kind(api.ClassBegin))
	}
	for _, s := range list("/*!*/", "/*+ x */", ":=") {
		for x := range statements() {
			wantOf(t, x+" "+s, odd())
			wantOf(t, s+x, odd())
		}
	}
	wantOf(t, "select /*+ x */ 1; select 1", odd(), kind(api.ClassRead))
	wantOf(t, "select ':=', `:=`", kind(api.ClassRead))
	wantOf(t, "select 1 : = 2", kind(api.ClassRead))
}

func TestP20_1Into(t *testing.T) {
	for s, want := range map[string]int{
		"insert into t values (1)": api.ClassWrite, "replace into t values (1)": api.ClassWrite, "INSERT INTO t": api.ClassWrite, "insert into": api.ClassWrite,
		"insert ignore into t values (1)": api.ClassOdd, "replace low_priority into t": api.ClassOdd, "insert into t select 1 into @a": api.ClassOdd, "insert into into": api.ClassOdd, "replace into t into outfile 'f'": api.ClassOdd,
		"select into @a": api.ClassOdd, "update into t": api.ClassOdd, "into insert": api.ClassOdd, "into": api.ClassOdd, "insert t into": api.ClassOdd, "`insert` into t": api.ClassOdd, "'insert' into t": api.ClassOdd, "explain insert into t": api.ClassOdd,
		"select 1 into @a": api.ClassOdd, "table t into @a": api.ClassOdd, "(select 1 into @a)": api.ClassOdd, "insert into t select found_rows": api.ClassOdd, "insert `into` into": api.ClassOdd,
		"load data local infile 'f' into table t": api.ClassFile, "load data local infile into into into": api.ClassFile, "load data local infile 'f' replace into table t": api.ClassFile,
		"load data infile 'f' into table t": api.ClassOdd, "load data infile 'f' table t": api.ClassOdd, "load data local infile 'f' into outfile": api.ClassOdd, "load data local infile 'f' into table t set a = row_count()": api.ClassOdd,
		"load into data local infile 'f'": api.ClassOdd, "load data local into infile": api.ClassOdd, "load xml local infile 'f'": api.ClassOdd, "load data local infile get_lock": api.ClassOdd,
	} {
		wantOf(t, s, kind(want))
	}
}

func TestP20_1Locks(t *testing.T) {
	for _, s := range strings.Fields(lockingNames) {
		for _, x := range list("select "+s, "select "+s+"('l')", "select 1, "+s+"('l', 5)", "do_ "+s, "set a = "+s, "insert into t values ("+s+"('l'))", "use "+s, "begin; "+strings.ToUpper(s), "create temporary table "+s, "load data local infile "+s) {
			got, f := classify.Of(x)
			if f != (api.Fault{}) || got[len(got)-1] != odd() {
				t.Errorf("Of of %s: %s, %v", brief(x), brief(got), f)
			}
		}
		wantOf(t, "select `"+s+"`, @"+s+", '"+s+"'", kind(api.ClassRead))
		wantOf(t, "lock tables "+s+" read", named(api.ClassLock, s))
	}
	for s, want := range map[string]api.Class{
		"select get_lock('L', 5)": named(api.ClassLock, "L"), `SELECT GET_LOCK("it's", 0.5)`: named(api.ClassLock, "it's"), "select get_lock('', 5)": named(api.ClassLock, ""),
		"select get_lock(l, 5)": odd(), "select get_lock(`l`, 5)": odd(), "select get_lock('l')": odd(), "select get_lock('l', '5')": odd(), "select get_lock('l', -1)": odd(), "select get_lock('l', +1)": odd(), "select get_lock('l', a)": odd(),
		"select get_lock('l', ?)": odd(), "select get_lock(?, 5)": odd(), "select get_lock('l', 5": odd(), "select get_lock('l', 5) x": odd(), "select get_lock('l', 5) for update": odd(), "select get_lock('l' 'm', 5)": odd(), "select get_lock(5, 'l')": odd(),
		"select `get_lock`('l', 5)": kind(api.ClassRead), "(select get_lock('l', 5))": odd(), "`select` get_lock('l', 5)": odd(), "select get_lock['l', 5]": odd(), "select get_lock('l'; 5)": odd(),
		"select release_all_locks(": odd(), "select release_all_locks() x": odd(), "select release_all_locks": odd(), "select release_all_locks(1)": odd(), "select release_lock('l')": odd(),
		"lock table t": named(api.ClassLock, "t"), "LOCK TABLES T READ": named(api.ClassLock, "t"), "lock tables `T` read": named(api.ClassLock, "T"), "lock tables s.t": named(api.ClassLock, "s.t"), "lock tables `S` . `T` x": named(api.ClassLock, "S.T"),
		"lock tables a.b.c": named(api.ClassLock, "a.b"), "lock tables s.": named(api.ClassLock, "s"), "lock tables s.'t'": named(api.ClassLock, "s"), "lock tables s.5": named(api.ClassLock, "s"), "lock tables s, u": named(api.ClassLock, "s"),
		"lock tables": odd(), "lock": odd(), "lock t": odd(), "lock tables 't'": odd(), "lock tables .t": odd(), "lock tables 5": odd(), "lock tables @t": odd(), "lock `tables` t": odd(), "lock instance for backup": odd(), "lock table table": named(api.ClassLock, "table"),
		"unlock": odd(), "unlock tables t": odd(), "unlock table": kind(api.ClassUnlock), "unlock `tables`": odd(), "unlock instance": odd(),
	} {
		if !strings.Contains(s, ";") {
			wantOf(t, s, want)
		}
		wantPlain(t, s)
	}
}

func TestP20_1Transactions(t *testing.T) {
	for s, want := range map[string]int{
		"begin": api.ClassBegin, "BEGIN WORK": api.ClassBegin, "begin x": api.ClassOdd, "begin work x": api.ClassOdd, "begin work work": api.ClassOdd, "`begin`": api.ClassOdd, "begin `work`": api.ClassOdd, "work": api.ClassOdd,
		"start transaction": api.ClassBegin, "start transaction with consistent snapshot, read write": api.ClassBegin, "start transaction 'x' 5 (": api.ClassBegin, "start": api.ClassOdd, "start slave": api.ClassOdd, "start `transaction`": api.ClassOdd, "transaction": api.ClassOdd,
		"commit": api.ClassEnd, "commit work": api.ClassEnd, "commit and chain": api.ClassOdd, "commit work and chain": api.ClassOdd, "commit to p": api.ClassOdd, "`commit`": api.ClassOdd,
		"rollback": api.ClassEnd, "rollback work": api.ClassEnd, "rollback and chain": api.ClassOdd, "rollback work release": api.ClassOdd,
		"rollback to p": api.ClassRead, "rollback to savepoint p": api.ClassRead, "rollback to": api.ClassRead, "rollback work to p": api.ClassRead, "rollback work to savepoint p": api.ClassRead, "rollback work work to p": api.ClassOdd, "rollback `to` p": api.ClassOdd,
		"savepoint p": api.ClassRead, "savepoint": api.ClassRead, "release savepoint p": api.ClassRead, "release savepoint": api.ClassRead, "release p": api.ClassOdd, "release": api.ClassOdd,
	} {
		wantOf(t, s, kind(want))
	}
}

func TestP20_1UserVariables(t *testing.T) {
	for s, want := range map[string]api.Class{
		"set @a = 1": userVar("a", "1"), "SET @A = B": userVar("a", "b"), "set @`A``b` = `B`": userVar("a`b", "B"), "set @'' = ''": userVar("", ""), "set @a = 'it''s'": userVar("a", "it's"), "set @a = - 5": userVar("a", "-5"), "set @a=+.5e3": userVar("a", "+.5e3"),
		"set @autocommit = 1": userVar("autocommit", "1"), "set @sql_log_bin = null": userVar("sql_log_bin", "null"),
		"set @a := 1": odd(), "set @a = 1, @b = 2": odd(), "set @a": odd(), "set @a =": odd(), "set @a = @b": odd(), "set @a = @@b": odd(), "set @a = ?": odd(), "set @a = (1)": odd(), "set @a = 1 + 1": odd(), "set @a = - - 5": odd(), "set @a = -'5'": odd(),
		"set @a = -b": odd(), "set @a = * 5": odd(), "set @a = 'a' 'b'": odd(), "set @a = -": odd(), "set @a == 1": odd(), "set @a 1": odd(), "set session @a = 1": odd(), "`set` @a = 1": odd(), "@a = 1": odd(),
	} {
		wantOf(t, s, want)
	}
}

func TestP20_1Sets(t *testing.T) {
	for s, want := range map[string]api.Class{
		"set a = 1": set("a", "1"), "SET SESSION A = ON": set("a", "on"), "set local `A B` = `C`": set("a b", "C"), "set `Ä` = 1": set("Ä", "1"), "set `\xffZ` = 1": set("\xffz", "1"), "set `` = ''": set("", ""), "set `@x` = 1": set("@x", "1"), "set a = - 0x1F": set("a", "-0x1F"),
		"set session session = 1": set("session", "1"), "set session local = 1": set("local", "1"), "set local local = 1": set("local", "1"), "set local session = 1": set("session", "1"), "set global = 1": set("global", "1"), "set session global = 1": set("global", "1"), "set set = set": set("set", "set"),
		"set `session` = 1": set("session", "1"), "set session names = 1": set("names", "1"), "set names = 1": set("names", "1"), "set persist = 1": set("persist", "1"), "set work = 1": set("work", "1"),
		"set session = 1": odd(), "set local = 1": odd(), "set session session a = 1": odd(), "set session local a = 1": odd(), "set `session` a = 1": odd(), "set persist a = 1": odd(), "set session global a = 1": odd(), "set a.b = 1": odd(), "set session a.b = 1": odd(),
		"set a := 1": odd(), "set a = 1, b = 2": odd(), "set a": odd(), "set": odd(), "set a =": odd(), "set a = 1 1": odd(), "set a = (1)": odd(), "set a = @b": odd(), "set a = ?": odd(), "set 'a' = 1": odd(), "set 5 = 1": odd(), "set a = -a": odd(), "set a = 1 - 1": odd(), "set a <=> 1": odd(), "set session transaction read only": odd(), "set transaction read only": odd(), "set role r": odd(), "set password for u = 'x'": odd(),
		"`set` a = 1": odd(), "set a == 1": odd(), "set a = /": odd(), "set a = - 'x'": odd(), "set a = + - 5": odd(),
	} {
		wantOf(t, s, want)
	}
}

func TestP20_1SystemVariables(t *testing.T) {
	for s, want := range map[string]api.Class{
		"set @@a = 1": set("a", "1"), "set @@A_b = X": set("a_b", "x"), "set @@Session.A = 1": set("a", "1"), "set @@LOCAL.A = 1": set("a", "1"), "set @@session = 1": set("session", "1"), "set @@local = 1": set("local", "1"), "set @@global = 1": set("global", "1"), "set @@session.session = 1": set("session", "1"), "set @@local.session = 1": set("session", "1"), "set @@1a = 1": set("1a", "1"), "set @@session.é = 1": set("é", "1"), "set @@names = 1": set("names", "1"),
		"set @@session.a=-1": set("a", "-1"),
		"set @@global.a = 1": odd(), "set @@persist.a = 1": odd(), "set @@a.b = 1": odd(), "set @@session.a.b = 1": odd(), "set @@session.local.a = 1": odd(), "set @@local.session.a = 1": odd(), "set @@session. = 1": odd(), "set @@local. = 1": odd(), "set @@. = 1": odd(), "set @@.a = 1": odd(), "set @@a. = 1": odd(), "set @@session..a = 1": odd(), "set @@5 = 1": odd(), "set @@session.15 = 1": odd(),
		"set session @@a = 1": odd(), "set @@a := 1": odd(), "set @@a = 1, @@b = 2": odd(), "set @@a": odd(), "set @@a = @@b": odd(), "@@a = 1": odd(), "set global @@a = 1": kind(api.ClassWrite),
	} {
		wantOf(t, s, want)
	}
}

// TestP20_1SpecialVariables are those of which a set is odd, however they are called.
func TestP20_1SpecialVariables(t *testing.T) {
	for _, s := range list("autocommit", "transaction", "password", "role", "sql_log", "sql_log_bin", "sql_log_off", "sql_logx") {
		great := strings.ToUpper(s)
		for _, x := range list("set "+s+" = 1", "set session "+great+" = 'x'", "set local "+s+" = on", "set `"+great+"` = 1", "set @@"+s+" = 1", "set @@session."+great+" = 1", "set @@Local."+s+" = -1") {
			wantOf(t, x, odd())
		}
		wantOf(t, "set @"+s+" = 1", userVar(s, "1"))
		wantOf(t, "set names "+s, set("names", s))
		wantOf(t, "set a = "+s, set("a", s))
		wantOf(t, "set global "+s+" = 1", kind(api.ClassWrite))
	}
	for _, s := range list("autocommit1", "autocommi", "transaction_isolation", "passwords", "roles", "sql_lo", "xsql_log", "a_sql_log_bin", "sql_mode", "_role") {
		wantOf(t, "set "+s+" = 1; set @@"+s+" = 1", set(s, "1"), set(s, "1"))
	}
}

func TestP20_1SetNames(t *testing.T) {
	for s, want := range map[string]api.Class{
		"set names utf8": set("names", "utf8"), "SET NAMES UTF8": set("names", "utf8"), "set names 'UTF8'": set("names", "UTF8"), "set names `X`": set("names", "X"), "set names default": set("names", "default"), "set names names": set("names", "names"), "set names -5": set("names", "-5"), "set names 5": set("names", "5"),
		"set names": odd(), "set names utf8 collate x": odd(), "set session names utf8": odd(), "set local names 'x'": odd(), "set `names` 'x'": odd(), "set names (utf8)": odd(), "set names @a": odd(), "set names ?": odd(), "set names , a": odd(), "set names a, b = 1": odd(), "set charset utf8": odd(), "set character set utf8": odd(), "set @@names utf8": odd(), "set names = ": odd(), "names x": odd(),
	} {
		wantOf(t, s, want)
	}
}

func TestP20_1Use(t *testing.T) {
	for s, want := range map[string]api.Class{
		"use d": named(api.ClassUse, "d"), "USE D": named(api.ClassUse, "d"), "use `D``e`": named(api.ClassUse, "D`e"), "use ``": named(api.ClassUse, ""), "use use": named(api.ClassUse, "use"), "use 1d": named(api.ClassUse, "1d"),
		"use": odd(), "use d e": odd(), "use d.e": odd(), "use 'd'": odd(), "use 5": odd(), "use @d": odd(), "use ?": odd(), "`use` d": odd(), "use (d)": odd(),
	} {
		wantOf(t, s, want)
	}
}

func TestP20_1Temps(t *testing.T) {
	for s, want := range map[string]api.Class{
		"create temporary table t": named(api.ClassTemp, "t"), "CREATE TEMPORARY TABLE IF NOT EXISTS T": named(api.ClassTemp, "t"), "create temporary table `S`.`T` (a int)": named(api.ClassTemp, "S.T"), "create temporary table s . t like u": named(api.ClassTemp, "s.t"), "create temporary table s.": named(api.ClassTemp, "s"), "create temporary table s.t.u": named(api.ClassTemp, "s.t"),
		"create temporary table if": named(api.ClassTemp, "if"), "create temporary table if (a int)": named(api.ClassTemp, "if"), "create temporary table if not": named(api.ClassTemp, "if"), "create temporary table if not x": named(api.ClassTemp, "if"), "create temporary table if exists t": named(api.ClassTemp, "if"), "create temporary table `if` not exists t": named(api.ClassTemp, "if"), "create temporary table if.t": named(api.ClassTemp, "if.t"), "create temporary table if not exists if not exists t": named(api.ClassTemp, "if"),
		"create temporary table if not exists": kind(api.ClassWrite), "create temporary table if not exists (a int)": kind(api.ClassWrite), "create temporary table": kind(api.ClassWrite), "create temporary table 't'": kind(api.ClassWrite), "create temporary table (a int)": kind(api.ClassWrite), "create table t": kind(api.ClassWrite), "create temporary t": kind(api.ClassWrite), "create `temporary` table t": kind(api.ClassWrite), "create temporary tables t": kind(api.ClassWrite), "create or replace temporary table t": kind(api.ClassWrite),
		"create temporary table t select get_lock('l', 5)": odd(), "create temporary table t select 1 into @a": odd(), "create temporary table if not exists do": odd(),
		"drop temporary table t": named(api.ClassDropTemp, "t"), "DROP TEMPORARY TABLE IF EXISTS S.T": named(api.ClassDropTemp, "s.t"), "drop temporary table `S` . t": named(api.ClassDropTemp, "S.t"), "drop temporary table if": named(api.ClassDropTemp, "if"), "drop temporary table if.exists": named(api.ClassDropTemp, "if.exists"), "drop temporary table if exists if": named(api.ClassDropTemp, "if"),
		"drop temporary table if exists": kind(api.ClassWrite), "drop temporary table": kind(api.ClassWrite), "drop temporary table a, b": kind(api.ClassWrite), "drop temporary table a b": kind(api.ClassWrite), "drop temporary table a.": kind(api.ClassWrite), "drop temporary table a.b.c": kind(api.ClassWrite), "drop temporary table 'a'": kind(api.ClassWrite), "drop temporary tables a": kind(api.ClassWrite), "drop table a": kind(api.ClassWrite), "drop temporary table if not exists a": kind(api.ClassWrite), "drop temporary table a cascade": kind(api.ClassWrite),
		"drop temporary table release_lock": odd(), "create temporary table a.1b (x int)": named(api.ClassTemp, "a"), "drop temporary table a.1b": kind(api.ClassWrite),
	} {
		wantOf(t, s, want)
	}
}

func TestP20_1Begins(t *testing.T) {
	for names, want := range map[string]int{writingNames: api.ClassWrite, readingNames: api.ClassRead} {
		for _, s := range strings.Fields(names) {
			for _, x := range list(s, s+" x", strings.ToUpper(s)+"(1)", s+" 'into'", s+";") {
				wantOf(t, x, kind(want))
			}
			for _, x := range list("`"+s+"`", "'"+s+"'", "@"+s, "@@"+s, s+"s1", "x "+s, "? "+s, ". "+s, "5 "+s) {
				wantOf(t, x, odd())
			}
		}
	}
	for s, want := range map[string]int{
		"(select 1)": api.ClassRead, "( SELECT": api.ClassRead, "(select 1) union (select 2)": api.ClassRead, "((select 1))": api.ClassOdd, "(table t)": api.ClassOdd, "(`select` 1)": api.ClassOdd, "(": api.ClassOdd, "[select 1]": api.ClassOdd, "(with a as (select 1) select 1)": api.ClassOdd, "'(' select 1": api.ClassOdd,
		"set global a = 1": api.ClassWrite, "set global a = @b, c = 2": api.ClassWrite, "set global": api.ClassWrite, "SET GLOBAL transaction read only": api.ClassWrite, "set `global` a = 1": api.ClassOdd, "set a = 1, global b = 2": api.ClassOdd,
		"flush tables": api.ClassOdd, "kill 1": api.ClassOdd, "check table t": api.ClassOdd, "x": api.ClassOdd, "?": api.ClassOdd, "5": api.ClassOdd, "'select 1'": api.ClassOdd, "selects": api.ClassOdd, "reset": api.ClassOdd, "explain select 1": api.ClassRead,
	} {
		wantOf(t, s, kind(want))
	}
}

// TestP20_1LockingReads are reads that lock rows, by their last words.
func TestP20_1LockingReads(t *testing.T) {
	for s, want := range map[string]int{
		"select 1 for update": api.ClassWrite, "SELECT * FROM t FOR SHARE": api.ClassWrite, "select a lock in share mode": api.ClassWrite, "select for update": api.ClassWrite, "select for share": api.ClassWrite, "select lock in share mode": api.ClassWrite,
		"select (select 1 for update) for update": api.ClassWrite, "select 'x' for update;": api.ClassWrite, "select for for update": api.ClassWrite,
		"select 1 for update nowait": api.ClassRead, "select 1 for share of t": api.ClassRead, "select 1 for share skip locked": api.ClassRead, "select 1 lock in share": api.ClassRead, "select 1 in share mode": api.ClassRead, "select 1 share mode": api.ClassRead, "select 1 update": api.ClassRead, "select 1 share": api.ClassRead, "select 1 for": api.ClassRead,
		"select 1 for `update`": api.ClassRead, "select 1 `for` update": api.ClassRead, "select 1 for 'share'": api.ClassRead, "select 1 for, update": api.ClassRead, "select 1 update for": api.ClassRead, "select (1 for update)": api.ClassRead, "select update": api.ClassRead, "select mode": api.ClassRead, "select @for update": api.ClassRead,
		"(select 1) for update": api.ClassRead, "with a as (select 1) select 1 for update": api.ClassRead, "table t for update": api.ClassRead, "with a as (select 1) select 1 for share": api.ClassRead, "(select 1) lock in share mode": api.ClassRead,
		"for update": api.ClassOdd, "for share": api.ClassOdd, "lock in share mode": api.ClassOdd, "x for update": api.ClassOdd, "`select` 1 for update": api.ClassOdd,
	} {
		wantOf(t, s, kind(want))
	}
}

// TestP20_1Small has all short statements of the words of some families.
func TestP20_1Small(t *testing.T) {
	for _, f := range families() {
		for _, begin := range strings.Split(f.begins, "|") {
			for s := range strs(f.n, begin, strings.Fields(f.words)...) {
				wantPlain(t, s)
			}
		}
	}
}

// TestP20_1PutIn has each fragment at each place of some of each class, and each of their words left out.
func TestP20_1PutIn(t *testing.T) {
	for s := range statements() {
		words, _ := scan.All(s)
		for i := range len(words) + 1 {
			at := len(s)
			if i < len(words) {
				at = words[i].At
				wantPlain(t, scan.Plain(slices.Concat(words[:i], words[i+1:])))
			}
			for _, x := range fragments() {
				wantPlain(t, s[:at]+" "+x+" "+s[at:])
			}
		}
	}
}

func TestP20_1Drawn(t *testing.T) {
	r := rand.New(rand.NewSource(201))
	some := slices.Sorted(maps.Keys(statements()))
	for range 60_000 {
		wantPlain(t, drawnText(r, some))
	}
}

func TestP20_1One(t *testing.T) {
	for s, want := range statements() {
		l, _ := scan.All(s)
		wantOne(t, l, want)
		for i := range len(l) + 1 {
			wantOne(t, slices.Concat(l[:i], list(sign(";")), l[i:]), odd())
		}
	}
	wantOne(t, list(sign(";")), odd())
	wantOne(t, list(name("begin"), sign(";")), odd())
	wantOne(t, list(name("start"), name("transaction"), sign(";")), odd())
	wantOne(t, list(name("select"), text(";")), kind(api.ClassRead))
	wantOne(t, list(name("use"), quotedName(";")), named(api.ClassUse, ";"))
	wantOne(t, list(name("set"), quotedName("A"), sign("="), sign("+"), number("07")), set("a", "+07"))
	wantOne(t, list(name("set"), quotedName("A"), sign("="), number("+"), number("07")), odd())
	wantOne(t, list(name("use"), name("")), named(api.ClassUse, ""))
	wantOne(t, list(word(0, "select")), odd())
	wantOne(t, list(word(-1, "begin")), odd())
	wantOne(t, list(word(10, "insert")), odd())
	wantOne(t, list(word(math.MinInt, ";"), name("x")), odd())
	wantOne(t, list(name("select"), word(math.MaxInt, "do")), kind(api.ClassRead))
	wantOne(t, list(name("select"), word(api.WordOdd, "")), odd())
}

// TestP20_1NoWords has the class of no words.
func TestP20_1NoWords(t *testing.T) {
	for _, l := range [][]api.Word{nil, {}, make([]api.Word, 0, 3), list(name("begin"))[:0]} {
		wantOne(t, l, odd())
	}
}

func TestP20_1OneDrawn(t *testing.T) {
	r := rand.New(rand.NewSource(202))
	for range 60_000 {
		var l []api.Word
		for range r.Intn(8) {
			l = append(l, drawnWord(r))
		}
		wantOne(t, l, plainOne(l))
	}
}

func TestP20_2Pins(t *testing.T) {
	pins := list(3, 7, 8, 10, 13)
	for k := -300; k < 300; k++ {
		if classify.Pins(k) != slices.Contains(pins, k) {
			t.Errorf("Pins of %d: %v", k, classify.Pins(k))
		}
	}
	for _, k := range list(math.MinInt, math.MaxInt, 1<<32+3, 256+13) {
		if classify.Pins(k) {
			t.Errorf("Pins of %d", k)
		}
	}
}

func TestP20_2Name(t *testing.T) {
	names := strings.Fields("read write begin end set use user-var temp drop-temp lock unlock file odd")
	for k := -300; k < 300; k++ {
		want := ""
		if k >= 1 && k <= len(names) {
			want = names[k-1]
		}
		if got := classify.Name(k); got != want {
			t.Errorf("Name of %d: %q, want %q", k, got, want)
		}
	}
	for _, k := range list(math.MinInt, math.MaxInt, 1<<32+3, 14) {
		if got := classify.Name(k); got != "" {
			t.Errorf("Name of %d: %q", k, got)
		}
	}
}

func TestP20_2Anew(t *testing.T) {
	for c, want := range map[api.Class]string{
		set("a", "1"): "set session `a` = '1'", set("", ""): "set session `` = ''", set("a`b", "it's"): "set session `a``b` = 'it''s'", set("```", `\'`): "set session ```````` = '\\\\'''", set("A;b", "\x00\n\"`"): "set session `A;b` = '\x00\n\"`'",
		set("names", "utf8"): "set names 'utf8'", set("names", "it's"): "set names 'it''s'", set("names", ""): "set names ''", set("NAMES", "x"): "set session `NAMES` = 'x'", set("name", "x"): "set session `name` = 'x'", set("autocommit", "0"): "set session `autocommit` = '0'",
		named(api.ClassUse, "d"): "use `d`", named(api.ClassUse, ""): "use ``", named(api.ClassUse, "D`e"): "use `D``e`", named(api.ClassUse, "names"): "use `names`",
		{Kind: api.ClassUse, Name: "d", Value: "x"}: "use `d`",
	} {
		wantAnew(t, c, want, true)
	}
	for k := -20; k < 300; k++ {
		if k != api.ClassSet && k != api.ClassUse {
			wantAnew(t, kind(k), "", false)
			wantAnew(t, api.Class{Kind: k, Name: "names", Value: "x"}, "", false)
		}
	}
	wantAnew(t, kind(math.MinInt), "", false)
	wantAnew(t, kind(math.MaxInt), "", false)
}

func TestP20_2AnewDrawn(t *testing.T) {
	r := rand.New(rand.NewSource(203))
	for range 10_000 {
		c := api.Class{Kind: 1 + r.Intn(14), Name: drawnBytes(r), Value: drawnBytes(r)}
		want, ok := plainAnew(c)
		wantAnew(t, c, want, ok)
	}
}

// TestP20_3SameMeaning has remarks, blanks and great letters put where they mean nothing.
func TestP20_3SameMeaning(t *testing.T) {
	for s, want := range statements() {
		for _, gap := range list("  ", "\t\n\v\f\r", "/**/", " /* do ; := */ ", "# into\n", " -- warnings\n", "/*/*!*/") {
			words, _ := scan.All(s)
			told := gap
			for _, w := range words {
				told += scan.Plain(list(w)) + gap
			}
			wantOf(t, told, want)
		}
		if !strings.ContainsAny(s, "'`") {
			wantOf(t, strings.ToUpper(strings.ReplaceAll(s, "0x1F", "31")), classOfGreat(want))
		}
	}
}

// classOfGreat is the class of a statement in great letters: a hexadecimal number would be none.
func classOfGreat(c api.Class) api.Class {
	if c.Value == "0x1F" {
		c.Value = "31"
	}
	return c
}

// TestP20_3Again says classes anew that can be: each is told again.
func TestP20_3Again(t *testing.T) {
	r := rand.New(rand.NewSource(204))
	for range 30_000 {
		s := []string{"set ", "set session ", "set local ", "use ", "set @@", "set names "}[r.Intn(6)]
		name, value := scan.Plain(list(quotedName(drawnBytes(r)))), scan.Quote(drawnBytes(r))
		switch {
		case s == "use ":
			s += name
		case s == "set names ":
			s += value
		case s == "set @@":
			s += []string{"a", "session.b", "LOCAL.names", "Names"}[r.Intn(4)] + " = " + value
		default:
			s += name + "=" + value
		}
		l, f := classify.Of(s)
		if f != (api.Fault{}) || len(l) != 1 {
			t.Fatalf("Of of %s: %s, %v", brief(s), brief(l), f)
		}
		again, ok := classify.Anew(l[0])
		if !ok {
			t.Fatalf("Anew of %s: %s", brief(l[0]), brief(again))
		}
		wantOf(t, again, l[0])
	}
	for s, c := range statements() {
		again, ok := classify.Anew(c)
		if ok != (c.Kind == api.ClassSet || c.Kind == api.ClassUse) {
			t.Errorf("Anew of %s, of %s: %s", brief(c), s, brief(again))
		}
		if ok {
			wantOf(t, again, c)
		}
	}
}

// TestP20_3Odd has each odd name put in at each place of some of each class: it is odd, but for an into that may be there.
func TestP20_3Odd(t *testing.T) {
	for s, was := range statements() {
		words, _ := scan.All(s)
		for i := range len(words) + 1 {
			for _, x := range strings.Fields(oddNames) {
				want := odd()
				if x == "into" && (was.Kind == api.ClassFile && i >= 4) {
					want = was
				}
				wantOne(t, slices.Insert(slices.Clone(words), i, name(x)), want)
			}
		}
	}
}

// TestT6 ends at whatever is asked, and tells the same twice.
func TestT6(t *testing.T) {
	const most = 1 << 20
	for _, s := range list(";", "a;", "into ", "a ", "use d;", "set a = 1;", "( ", "load data local infile into ", "select get_lock('a',1);", "create temporary table a.", ":=", "/*!*/", "`", "'", "\xff") {
		long := strings.Repeat(s, most/len(s))
		first, firstF := classify.Of(long)
		second, secondF := classify.Of(long)
		if !slices.Equal(first, second) || firstF != secondF {
			t.Errorf("Of of many %s: %s, %s", s, brief(first), brief(second))
		}
	}
	r := rand.New(rand.NewSource(205))
	for range 10_000 {
		s := drawnBytes(r) + drawnText(r, list("set a = 1")) + drawnBytes(r)
		first, firstF := classify.Of(s)
		second, secondF := classify.Of(s)
		if !slices.Equal(first, second) || firstF != secondF {
			t.Errorf("Of of %s: %s, %s", brief(s), brief(first), brief(second))
		}
		wantPlain(t, s)
	}
}
