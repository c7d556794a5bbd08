package rule

import "spindle/api"

// A row is what the rules ask of one of the eight commands.
type row struct {
	flags   uint16 // those that it may have
	changes bool   // it changes bytes
	carries bool   // it, or its answer, carries the bytes of its range
	beyond  uint32 // the error of a range that reaches beyond the size; of one that has no range none
}

// commands are the eight by their numbers. FlagPayload is not among the flags, since it hangs on the session, too (rule 2).
var commands = [...]row{
	api.CmdRead:   {flags: api.FlagFua | api.FlagDF, carries: true, beyond: api.EInval},
	api.CmdWrite:  {flags: api.FlagFua, changes: true, carries: true, beyond: api.ENoSpc},
	api.CmdDisc:   {flags: api.FlagFua},
	api.CmdFlush:  {flags: api.FlagFua},
	api.CmdTrim:   {flags: api.FlagFua, changes: true, beyond: api.EInval},
	api.CmdCache:  {flags: api.FlagFua, beyond: api.EInval},
	api.CmdZeroes: {flags: api.FlagFua | api.FlagNoHole | api.FlagFast, changes: true, beyond: api.ENoSpc},
	api.CmdStatus: {flags: api.FlagFua | api.FlagOne, beyond: api.EInval},
}

// Known tells whether a command is one that is done.
func Known(command uint16) bool { return int(command) < len(commands) }

// Allowed answers the flags that a command may have.
func Allowed(command uint16) uint16 {
	if !Known(command) {
		return 0
	}
	return commands[command].flags
}

// Changes tells whether a command changes bytes.
func Changes(command uint16) bool { return Known(command) && commands[command].changes }
