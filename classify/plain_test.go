package classify_test

import (
	"slices"
	"strings"

	"sluicegate/api"
	"sluicegate/scan"
)

// This file reads the chapter plainly: its table's statements are patterns, tried one behind the other.

// A pattern's fields are names without quotes and signs as they stand, [..] (with _ for blanks and | between what may be there), .. for anything, and kinds of words in great letters.
type pattern struct {
	kind int
	text string
}

func patterns() []pattern {
	return []pattern{
		{api.ClassLock, "select get_lock ( TEXT , NUMBER )"},
		{api.ClassLock, "lock table TABLE .."},
		{api.ClassLock, "lock tables TABLE .."},
		{api.ClassUnlock, "select release_all_locks ( )"},
		{api.ClassUnlock, "unlock table"},
		{api.ClassUnlock, "unlock tables"},
		{api.ClassOdd, "LOCKING"},
		{api.ClassBegin, "begin [work]"},
		{api.ClassBegin, "start transaction .."},
		{api.ClassEnd, "commit [work]"},
		{api.ClassEnd, "rollback [work]"},
		{api.ClassUserVar, "set USER = LITERAL"},
		{api.ClassSet, "set [session|local] NAME = LITERAL"},
		{api.ClassSet, "set SYSTEM = LITERAL"},
		{api.ClassSet, "set NAMES LITERAL"},
		{api.ClassUse, "use NAME"},
		{api.ClassTemp, "create temporary table [if_not_exists] TABLE .."},
		{api.ClassDropTemp, "drop temporary table [if_exists] TABLE"},
		{api.ClassFile, "load data local infile .."},
		{api.ClassWrite, "WRITES .."},
		{api.ClassWrite, "set global .."},
		{api.ClassWrite, "select .. for update"},
		{api.ClassWrite, "select .. for share"},
		{api.ClassWrite, "select .. lock in share mode"},
		{api.ClassRead, "READS .."},
		{api.ClassRead, "( select .."},
		{api.ClassRead, "release savepoint .."},
		{api.ClassRead, "rollback to .."},
		{api.ClassRead, "rollback work to .."},
	}
}

const (
	oddNames     = "last_insert_id found_rows row_count connection_id get_diagnostics warnings errors profile profiles into outfile dumpfile prepare execute deallocate handler call xa do sql_calc_found_rows"
	lockingNames = "get_lock is_used_lock is_free_lock release_lock release_all_locks"
	writingNames = "insert update delete replace create drop alter truncate rename grant revoke analyze optimize"
	readingNames = "select show explain describe desc table values with savepoint"
)

func plainOf(s string) ([]api.Class, api.Fault) {
	words, f := scan.All(s)
	if f != (api.Fault{}) {
		return nil, f
	}
	var l []api.Class
	var statement []api.Word
	for _, w := range append(words, sign(";")) {
		switch {
		case w.Kind != api.WordSign || w.Text != ";":
			statement = append(statement, w)
		case len(statement) > 0:
			l = append(l, plainOne(statement))
			statement = nil
		}
	}
	return l, api.Fault{}
}

func plainOne(l []api.Word) api.Class {
	if slices.ContainsFunc(l, func(w api.Word) bool { return w.Kind == api.WordSign && w.Text == ";" }) || plainOdd(l) {
		return api.Class{Kind: api.ClassOdd}
	}
	for _, p := range patterns() {
		c := api.Class{Kind: p.kind}
		if plainFits(&c, strings.Fields(p.text), l) {
			return plainSpecial(c)
		}
	}
	return api.Class{Kind: api.ClassOdd}
}

// plainSpecial makes a set of some variables odd.
func plainSpecial(c api.Class) api.Class {
	if c.Kind == api.ClassSet && (isOneOf(c.Name, "autocommit transaction password role") || strings.HasPrefix(c.Name, "sql_log")) {
		return api.Class{Kind: api.ClassOdd}
	}
	return c
}

func plainOdd(l []api.Word) bool {
	for i, w := range l {
		mayBe := w.Text == "into" && (i == 1 && plainWords(l, "insert into") || i == 1 && plainWords(l, "replace into") || plainWords(l, "load data local infile"))
		if w.Kind == api.WordOdd || w.Kind == api.WordSign && w.Text == ":=" || w.Kind == api.WordName && isOneOf(w.Text, oddNames) && !mayBe {
			return true
		}
	}
	return false
}

// isOneOf tells whether a text is one of some names.
func isOneOf(s, names string) bool {
	return slices.Contains(strings.Fields(names), s)
}

// plainWords tells whether words begin with what a text has.
func plainWords(l []api.Word, s string) bool {
	want := strings.Fields(s)
	if len(l) < len(want) {
		return false
	}
	for i, x := range want {
		kind := api.WordName
		if strings.Contains("(),.=", x) {
			kind = api.WordSign
		}
		if l[i].Kind != kind || l[i].Text != x {
			return false
		}
	}
	return true
}

// plainFits tells whether a pattern's fields fit words, and notes what a class has.
func plainFits(c *api.Class, fields []string, l []api.Word) bool {
	if len(fields) == 0 {
		return len(l) == 0
	}
	n := -1
	switch f := fields[0]; {
	case f == "..":
		for from := range len(l) + 1 {
			if plainFits(c, fields[1:], l[from:]) {
				return true
			}
		}
	case f == "LOCKING":
		return slices.ContainsFunc(l, func(w api.Word) bool { return w.Kind == api.WordName && isOneOf(w.Text, lockingNames) })
	case f[0] == '[':
		n = plainPerhaps(f, l)
	case f == strings.ToLower(f):
		if plainWords(l, f) {
			n = 1
		}
	case len(l) > 0:
		n = plainTakes(c, f, l)
	}
	return n >= 0 && plainFits(c, fields[1:], l[n:])
}

// plainPerhaps is how many words stand there of a field in brackets.
func plainPerhaps(f string, l []api.Word) int {
	for _, s := range strings.Split(strings.Trim(f, "[]"), "|") {
		if s = strings.ReplaceAll(s, "_", " "); plainWords(l, s) {
			return len(strings.Fields(s))
		}
	}
	return 0
}

// plainTakes is how many words, of one at least, a field in great letters takes, and -1, if they are none of its.
func plainTakes(c *api.Class, f string, l []api.Word) int {
	w := l[0]
	isName := func(i int) bool { return i < len(l) && (l[i].Kind == api.WordName || l[i].Kind == api.WordQuoted) }
	takes := false
	switch f {
	case "TEXT":
		c.Name, takes = w.Text, w.Kind == api.WordText
	case "NUMBER":
		takes = w.Kind == api.WordNumber
	case "USER":
		c.Name, takes = w.Text, w.Kind == api.WordUser
	case "NAME":
		c.Name, takes = w.Text, isName(0)
		if c.Kind == api.ClassSet {
			c.Name = small(c.Name)
		}
	case "NAMES":
		c.Name, takes = "names", plainWords(l, "names")
	case "SYSTEM":
		c.Name, takes = plainSystem(w)
	case "WRITES":
		takes = w.Kind == api.WordName && isOneOf(w.Text, writingNames)
	case "READS":
		takes = w.Kind == api.WordName && isOneOf(w.Text, readingNames)
	case "TABLE":
		c.Name, takes = w.Text, isName(0)
		if takes && len(l) > 1 && plainWords(l[1:], ".") && isName(2) {
			c.Name += "." + l[2].Text
			return 3
		}
	case "LITERAL":
		if len(l) > 1 && w.Kind == api.WordSign && isOneOf(w.Text, "+ -") && l[1].Kind == api.WordNumber {
			c.Value = w.Text + l[1].Text
			return 2
		}
		c.Value, takes = w.Text, isName(0) || w.Kind == api.WordText || w.Kind == api.WordNumber
	}
	if !takes {
		return -1
	}
	return 1
}

// plainSystem is the name of a session's variable that a system variable is.
func plainSystem(w api.Word) (string, bool) {
	parts := strings.Split(small(w.Text), ".")
	if len(parts) == 2 && (parts[0] == "session" || parts[0] == "local") {
		parts = parts[1:]
	}
	hasLetter := strings.ContainsFunc(parts[0], func(r rune) bool { return r < '0' || r > '9' })
	return parts[0], w.Kind == api.WordSystem && len(parts) == 1 && hasLetter
}

func small(s string) string {
	var b strings.Builder
	for i := range len(s) {
		c := s[i]
		if strings.IndexByte("ABCDEFGHIJKLMNOPQRSTUVWXYZ", c) >= 0 {
			c |= 32
		}
		b.WriteByte(c)
	}
	return b.String()
}

func plainAnew(c api.Class) (string, bool) {
	name := "`" + strings.ReplaceAll(c.Name, "`", "``") + "`"
	value := "'" + strings.NewReplacer("'", "''", `\`, `\\`).Replace(c.Value) + "'"
	switch {
	case c.Kind == api.ClassSet && c.Name == "names":
		return "set names " + value, true
	case c.Kind == api.ClassSet:
		return "set session " + name + " = " + value, true
	case c.Kind == api.ClassUse:
		return "use " + name, true
	}
	return "", false
}
