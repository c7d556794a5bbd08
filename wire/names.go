package wire

import "spindle/api"

// A row is a number of a table and its name.
type row struct {
	table  int
	number uint32
	name   string
}

// haggled has the names of what is said ahead of the transmission.
var haggled = [...]row{
	{api.TableOption, api.OptExportName, "export-name"},
	{api.TableOption, api.OptAbort, "abort"},
	{api.TableOption, api.OptList, "list"},
	{api.TableOption, api.OptStartTLS, "starttls"},
	{api.TableOption, api.OptInfo, "info"},
	{api.TableOption, api.OptGo, "go"},
	{api.TableOption, api.OptStructured, "structured-reply"},
	{api.TableOption, api.OptListMeta, "list-meta-context"},
	{api.TableOption, api.OptSetMeta, "set-meta-context"},
	{api.TableOption, api.OptExtended, "extended-headers"},

	{api.TableReply, api.RepAck, "ack"},
	{api.TableReply, api.RepServer, "server"},
	{api.TableReply, api.RepInfo, "info"},
	{api.TableReply, api.RepMeta, "meta-context"},
	{api.TableReply, api.RepUnsup, "unsup"},
	{api.TableReply, api.RepPolicy, "policy"},
	{api.TableReply, api.RepInvalid, "invalid"},
	{api.TableReply, api.RepPlatform, "platform"},
	{api.TableReply, api.RepTLS, "tls-reqd"},
	{api.TableReply, api.RepUnknown, "unknown"},
	{api.TableReply, api.RepShutdown, "shutdown"},
	{api.TableReply, api.RepBlockSize, "block-size-reqd"},
	{api.TableReply, api.RepTooBig, "too-big"},
	{api.TableReply, api.RepExtended, "ext-header-reqd"},

	{api.TableInfo, api.InfoExport, "export"},
	{api.TableInfo, api.InfoName, "name"},
	{api.TableInfo, api.InfoDesc, "description"},
	{api.TableInfo, api.InfoBlock, "block-size"},
}

// transmitted has the names of what is said in the transmission. It is a table of its own since one of all the rows would be too great.
var transmitted = [...]row{
	{api.TableCommand, api.CmdRead, "read"},
	{api.TableCommand, api.CmdWrite, "write"},
	{api.TableCommand, api.CmdDisc, "disc"},
	{api.TableCommand, api.CmdFlush, "flush"},
	{api.TableCommand, api.CmdTrim, "trim"},
	{api.TableCommand, api.CmdCache, "cache"},
	{api.TableCommand, api.CmdZeroes, "write-zeroes"},
	{api.TableCommand, api.CmdStatus, "block-status"},

	{api.TableChunk, api.ChunkNone, "none"},
	{api.TableChunk, api.ChunkData, "data"},
	{api.TableChunk, api.ChunkHole, "hole"},
	{api.TableChunk, api.ChunkStatus, "status"},
	{api.TableChunk, api.ChunkStatus64, "status-64"},
	{api.TableChunk, api.ChunkError, "error"},
	{api.TableChunk, api.ChunkErrorAt, "error-at"},

	{api.TableError, 0, "ok"},
	{api.TableError, api.EPerm, "eperm"},
	{api.TableError, api.EIO, "eio"},
	{api.TableError, api.ENoMem, "enomem"},
	{api.TableError, api.EInval, "einval"},
	{api.TableError, api.ENoSpc, "enospc"},
	{api.TableError, api.EOverflow, "eoverflow"},
	{api.TableError, api.ENotSup, "enotsup"},
	{api.TableError, api.EShutdown, "eshutdown"},

	{api.TableContext, api.ContextBase, "base:allocation"},
	{api.TableContext, api.ContextUnsaved, "spindle:unsaved"},
	{api.TableContext, api.ContextDirty, "spindle:dirty"},
}

// rows goes through both tables.
func rows(yield func(row) bool) {
	for _, r := range haggled {
		if !yield(r) {
			return
		}
	}
	for _, r := range transmitted {
		if !yield(r) {
			return
		}
	}
}

// Name tells a number's name in a table, "" of none (P8.7).
func Name(table int, n uint32) string {
	for r := range rows {
		if r.table == table && r.number == n {
			return r.name
		}
	}
	return ""
}

// Number tells the number of a name in a table (P8.7).
func Number(table int, name string) (uint32, bool) {
	for r := range rows {
		if r.table == table && r.name == name {
			return r.number, true
		}
	}
	return 0, false
}
