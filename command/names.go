package command

import "sluicegate/api"

// known is what is known of a kind that has a name.
type known struct {
	name string
}

func names() map[byte]known {
	return map[byte]known{
		api.ComSleep:       {"sleep"},
		api.ComQuit:        {"quit"},
		api.ComInitDB:      {"init-db"},
		api.ComQuery:       {"query"},
		api.ComFieldList:   {"field-list"},
		api.ComCreateDB:    {"create-db"},
		api.ComDropDB:      {"drop-db"},
		api.ComRefresh:     {"refresh"},
		api.ComStatistics:  {"statistics"},
		api.ComProcessKill: {"process-kill"},
		api.ComPing:        {"ping"},
		api.ComChangeUser:  {"change-user"},
		api.ComPrepare:     {"prepare"},
		api.ComExecute:     {"execute"},
		api.ComLongData:    {"long-data"},
		api.ComClose:       {"close"},
		api.ComStmtReset:   {"stmt-reset"},
		api.ComSetOption:   {"set-option"},
		api.ComFetch:       {"fetch"},
		api.ComReset:       {"reset"},
	}
}
