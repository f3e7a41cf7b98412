package classify

import (
	"slices"
	"strings"

	"sluicegate/api"
)

// class answers the class of a statement without signs ;.
func (s sets) class(l []api.Word) api.Class {
	if s.isOdd(l) {
		return api.Class{Kind: api.ClassOdd}
	}
	if c, ok := firstOf(l, lock, lockTables, unlock); ok {
		return c
	}
	if slices.ContainsFunc(l, s.locking.hasName) {
		return api.Class{Kind: api.ClassOdd}
	}
	c, ok := firstOf(l, begin, end, setUser, s.set, setNames, use, makeTemp, dropTemp, file, s.write, s.read)
	if !ok {
		return api.Class{Kind: api.ClassOdd}
	}
	return c
}

// firstOf answers the class that the first of some functions finds, and whether one finds any.
func firstOf(l []api.Word, chain ...func(l []api.Word) (api.Class, bool)) (api.Class, bool) {
	for _, try := range chain {
		if c, ok := try(l); ok {
			return c, true
		}
	}
	return api.Class{}, false
}

// isOdd tells whether a statement has a word that makes it odd, whatever else it has.
func (s sets) isOdd(l []api.Word) bool {
	for i, w := range l {
		switch {
		case w.Kind == api.WordOdd, isSign(w, ":="):
			return true
		case s.odd.hasName(w) && !isInto(l, i):
			return true
		}
	}
	return false
}

// isInto tells whether a name is an into that tells where rows go in, and not where they go out.
func isInto(l []api.Word, i int) bool {
	if l[i].Text != "into" {
		return false
	}
	return i == 1 && (begins(l, "insert") || begins(l, "replace")) || isFile(l)
}

func isFile(l []api.Word) bool {
	return begins(l, "load", "data", "local", "infile")
}

func lock(l []api.Word) (api.Class, bool) {
	w := over(l)
	return w.found(api.ClassLock, w.names("select", "get_lock") && w.sign("(") && w.word(&w.name, api.WordText) && w.sign(",") && w.number() && w.sign(")") && w.end())
}

func lockTables(l []api.Word) (api.Class, bool) {
	w := over(l)
	return w.found(api.ClassLock, (w.names("lock", "table") || w.names("lock", "tables")) && w.table())
}

func unlock(l []api.Word) (api.Class, bool) {
	w := over(l)
	tables := w.names("unlock", "table") || w.names("unlock", "tables")
	return w.found(api.ClassUnlock, (tables || w.names("select", "release_all_locks") && w.sign("(") && w.sign(")")) && w.end())
}

func begin(l []api.Word) (api.Class, bool) {
	w := over(l)
	return w.found(api.ClassBegin, w.names("start", "transaction") || w.names("begin") && w.perhaps("work") && w.end())
}

func end(l []api.Word) (api.Class, bool) {
	w := over(l)
	return w.found(api.ClassEnd, (w.names("commit") || w.names("rollback")) && w.perhaps("work") && w.end())
}

func setUser(l []api.Word) (api.Class, bool) {
	w := over(l)
	return w.found(api.ClassUserVar, w.names("set") && w.word(&w.name, api.WordUser) && w.sign("=") && w.literal() && w.end())
}

// set is odd where the variable is one of which a set does more than that.
func (s sets) set(l []api.Word) (api.Class, bool) {
	w := over(l)
	c, ok := w.found(api.ClassSet, w.names("set") && (w.variable() || w.system()) && w.sign("=") && w.literal() && w.end())
	if !ok {
		return api.Class{}, false
	}
	c.Name = lower(c.Name)
	if s.special.has(c.Name) || strings.HasPrefix(c.Name, "sql_log") {
		return api.Class{Kind: api.ClassOdd}, true
	}
	return c, true
}

func setNames(l []api.Word) (api.Class, bool) {
	w := over(l)
	w.name = "names"
	return w.found(api.ClassSet, w.names("set", "names") && w.literal() && w.end())
}

func use(l []api.Word) (api.Class, bool) {
	w := over(l)
	return w.found(api.ClassUse, w.names("use") && w.named() && w.end())
}

func makeTemp(l []api.Word) (api.Class, bool) {
	w := over(l)
	return w.found(api.ClassTemp, w.names("create", "temporary", "table") && w.perhaps("if", "not", "exists") && w.table())
}

func dropTemp(l []api.Word) (api.Class, bool) {
	w := over(l)
	return w.found(api.ClassDropTemp, w.names("drop", "temporary", "table") && w.perhaps("if", "exists") && w.table() && w.end())
}

func file(l []api.Word) (api.Class, bool) {
	return over(l).found(api.ClassFile, isFile(l))
}

func (s sets) write(l []api.Word) (api.Class, bool) {
	locks := begins(l, "select") && (ends(l, "for", "update") || ends(l, "for", "share") || ends(l, "lock", "in", "share", "mode"))
	return over(l).found(api.ClassWrite, locks || s.writing.hasFirst(l) || begins(l, "set", "global"))
}

func (s sets) read(l []api.Word) (api.Class, bool) {
	w := over(l)
	point := w.names("release", "savepoint") || w.names("rollback", "to") || w.names("rollback", "work", "to")
	return w.found(api.ClassRead, point || s.reading.hasFirst(l) || w.sign("(") && w.names("select"))
}

// lower is s with A to Z as a to z. It goes byte by byte, as s may have bytes that are no runes.
func lower(s string) string {
	b := []byte(s)
	for i, c := range b {
		if c >= 'A' && c <= 'Z' {
			b[i] = c - 'A' + 'a'
		}
	}
	return string(b)
}
