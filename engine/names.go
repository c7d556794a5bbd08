package engine

import "spindle/api"

// The words of the kinds, in lines and in what is told of them.

var stepNames = [...]string{
	api.SOpen:  "open",
	api.SFeed:  "feed",
	api.STake:  "take",
	api.SRun:   "run",
	api.SSend:  "send",
	api.SShut:  "cut",
	api.SWrite: "write",
	api.SFault: "fault",
	api.SCrash: "crash",
	api.SStart: "start",
	api.SClear: "clear",
}

var askNames = [...]string{
	api.AskOpen:       "open",
	api.AskFlags:      "flags",
	api.AskList:       "list",
	api.AskInfo:       "info",
	api.AskGo:         "go",
	api.AskExport:     "export",
	api.AskAbort:      "abort",
	api.AskStructured: "structured",
	api.AskListMeta:   "list-meta",
	api.AskSetMeta:    "set-meta",
	api.AskOption:     "option",
	api.AskRequest:    "request",
	api.AskDisc:       "disc",
	api.AskClose:      "close",
	api.AskExtended:   "extended",
}

var faultNames = [...]string{
	api.FaultRead:    "read",
	api.FaultWrite:   "write",
	api.FaultBarrier: "barrier",
}

// What stands for a kind that has no name; no line says it.
const (
	noStep = "step"
	noName = "?"
)

func stepName(k api.StepKind) string {
	if k < api.SOpen || k > api.SClear {
		return noStep
	}
	return stepNames[k]
}

func askName(k api.AskKind) string {
	if !asks(k) {
		return noName
	}
	return askNames[k]
}

// asks tells whether there is an asking of that kind.
func asks(k api.AskKind) bool { return k >= api.AskOpen && k <= api.AskExtended }

func faultName(k int) string {
	if k < api.FaultRead || k > api.FaultBarrier {
		return noName
	}
	return faultNames[k]
}
