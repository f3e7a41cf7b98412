package classify

import "sluicegate/api"

// set is names that are looked up.
type set map[string]struct{}

func (s set) has(name string) bool {
	_, ok := s[name]
	return ok
}

// hasName tells whether a word is a name without quotes that is in the set.
func (s set) hasName(w api.Word) bool {
	return w.Kind == api.WordName && s.has(w.Text)
}

func (s set) hasFirst(l []api.Word) bool {
	return len(l) > 0 && s.hasName(l[0])
}

// sets are all that statements are looked up in, made once for all statements of a text.
type sets struct {
	odd, locking, special, writing, reading set
}

func newSets() sets {
	return sets{odd: oddNames(), locking: lockingNames(), special: specialNames(), writing: writingNames(), reading: readingNames()}
}

// oddNames are those that make each statement odd in which they stand.
func oddNames() set {
	return set{
		"last_insert_id": {}, "found_rows": {}, "row_count": {}, "connection_id": {}, "get_diagnostics": {},
		"warnings": {}, "errors": {}, "profile": {}, "profiles": {}, "into": {}, "outfile": {}, "dumpfile": {},
		"prepare": {}, "execute": {}, "deallocate": {}, "handler": {}, "call": {}, "xa": {}, "do": {}, "sql_calc_found_rows": {},
	}
}

// lockingNames are the functions that are about locks.
func lockingNames() set {
	return set{"get_lock": {}, "is_used_lock": {}, "is_free_lock": {}, "release_lock": {}, "release_all_locks": {}}
}

// specialNames are the variables that can't be said anew, as setting them does more than that.
func specialNames() set {
	return set{"autocommit": {}, "transaction": {}, "password": {}, "role": {}}
}

// writingNames are those with which statements begin that write.
func writingNames() set {
	return set{
		"insert": {}, "update": {}, "delete": {}, "replace": {}, "create": {}, "drop": {}, "alter": {},
		"truncate": {}, "rename": {}, "grant": {}, "revoke": {}, "analyze": {}, "optimize": {},
	}
}

// readingNames are those with which statements begin that read, where they are nothing else.
func readingNames() set {
	return set{
		"select": {}, "show": {}, "explain": {}, "describe": {}, "desc": {}, "table": {}, "values": {}, "with": {}, "savepoint": {},
	}
}
