package trace

import (
	"strconv"
	"strings"

	"spindle/api"
	"spindle/octet"
	"spindle/wire"
)

// Tell writes a record (P22.9).
func Tell(r api.Record) string {
	who := "client"
	if r.Server {
		who = "server"
	}
	words := append([]string{who}, wordsOf(r)...)
	if r.Last {
		words = append(words, "last")
	}
	return strings.Join(words, " ")
}

// wordsOf tells what a record's kind has to tell.
func wordsOf(r api.Record) []string {
	size, flags, n := octet.Decimal(r.Size), octet.Decimal(uint64(r.Flags)), strconv.Itoa(r.N)
	switch r.Kind {
	case api.RecGreeting:
		return []string{"greeting", flags}
	case api.RecFlags:
		return []string{"flags", flags}
	case api.RecOption:
		return []string{"option", name(api.TableOption, r.Code), size}
	case api.RecReply:
		return []string{"reply", name(api.TableOption, r.Code), name(api.TableReply, r.Flags), size}
	case api.RecExport:
		return []string{"export", size, flags}
	case api.RecRequest:
		return append([]string{"request", n}, wordsOfRequest(r.Request)...)
	case api.RecAnswer:
		return []string{"answer", n, name(api.TableError, r.Code), size}
	case api.RecChunk:
		return []string{"chunk", n, name(api.TableChunk, r.Code), size}
	case api.RecWrong:
		return []string{"wrong"}
	}
	return []string{"record", strconv.Itoa(int(r.Kind))}
}

func wordsOfRequest(q api.Request) []string {
	return []string{name(api.TableCommand, uint32(q.Type)), octet.Decimal(uint64(q.Flags)), octet.Decimal(q.Cookie), octet.Decimal(q.Offset), octet.Decimal(q.Length)}
}

// name is a number's name in a table; where there is none, the number.
func name(table int, n uint32) string {
	if word := wire.Name(table, n); word != "" {
		return word
	}
	return octet.Decimal(uint64(n))
}
