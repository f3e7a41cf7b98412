package command

import "sluicegate/api"

// field is what may stand behind a command's kind.
type field int

const (
	fieldText field = iota
	fieldStmt
	fieldParam
	fieldFlags
	fieldTimes // how often an execute is done, which is once
	fieldCount
	fieldOption
	fieldData
)

// once is what an execute says in its four bytes 1 0 0 0, as a fixed number.
const once = 1

// mostFlags is a cursor that reads alone; 0 is no cursor, and no other flags may be.
const mostFlags = 1

// fields answers what stands behind a kind, in order.
func fields(kind byte) []field {
	switch kind {
	case api.ComQuit, api.ComStatistics, api.ComPing, api.ComReset:
		return nil
	case api.ComInitDB, api.ComQuery, api.ComPrepare:
		return []field{fieldText}
	case api.ComProcessKill:
		return []field{fieldCount}
	case api.ComExecute:
		return []field{fieldStmt, fieldFlags, fieldTimes, fieldData}
	case api.ComLongData:
		return []field{fieldStmt, fieldParam, fieldData}
	case api.ComClose, api.ComStmtReset:
		return []field{fieldStmt}
	case api.ComSetOption:
		return []field{fieldOption}
	case api.ComFetch:
		return []field{fieldStmt, fieldCount}
	}
	return []field{fieldData}
}

// without answers a command with nothing in a field.
func without(c api.Command, f field) api.Command {
	switch f {
	case fieldText:
		c.Text = ""
	case fieldStmt:
		c.Stmt = 0
	case fieldParam:
		c.Param = 0
	case fieldFlags:
		c.Flags = 0
	case fieldCount:
		c.Count = 0
	case fieldOption:
		c.Option = 0
	case fieldData:
		c.Data = nil
	}
	return c
}

// isBare answers whether a command has nothing but its kind.
func isBare(c api.Command) bool {
	return c.Text == "" && c.Stmt == 0 && c.Param == 0 && c.Flags == 0 && c.Count == 0 && c.Option == 0 && len(c.Data) == 0
}
