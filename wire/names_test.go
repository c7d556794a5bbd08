package wire_test

import (
	"fmt"
	"strings"
	"testing"

	"spindle/wire"
)

// names are the chapter's tables, by their numbers.
func names() map[int]map[uint32]string {
	return map[int]map[uint32]string{
		1: {1: "export-name", 2: "abort", 3: "list", 5: "starttls", 6: "info", 7: "go", 8: "structured-reply", 9: "list-meta-context", 10: "set-meta-context", 11: "extended-headers"},
		2: {1: "ack", 2: "server", 3: "info", 4: "meta-context", 1<<31 + 1: "unsup", 1<<31 + 2: "policy", 1<<31 + 3: "invalid", 1<<31 + 4: "platform", 1<<31 + 5: "tls-reqd", 1<<31 + 6: "unknown", 1<<31 + 7: "shutdown", 1<<31 + 8: "block-size-reqd", 1<<31 + 9: "too-big", 1<<31 + 10: "ext-header-reqd"},
		3: {0: "export", 1: "name", 2: "description", 3: "block-size"},
		4: {0: "read", 1: "write", 2: "disc", 3: "flush", 4: "trim", 5: "cache", 6: "write-zeroes", 7: "block-status"},
		5: {0: "none", 1: "data", 2: "hole", 5: "status", 6: "status-64", 32769: "error", 32770: "error-at"},
		6: {0: "ok", 1: "eperm", 5: "eio", 12: "enomem", 22: "einval", 28: "enospc", 75: "eoverflow", 95: "enotsup", 108: "eshutdown"},
		7: {1: "base:allocation", 2: "spindle:unsaved", 3: "spindle:dirty"},
	}
}

// tables are those that there are, and some that there are not.
func tables() []int {
	return []int{-1 << 63, -8, -7, -1, 0, 1, 2, 3, 4, 5, 6, 7, 8, 9, 14, 255, 256, 257, 1 << 32, 1<<32 + 1, 1<<63 - 1}
}

// P8.7: every row, and every number that has none, in every table.
func TestName(t *testing.T) {
	var numbers []uint32
	for n := range uint32(1000) {
		numbers = append(numbers, n, 32000+n, 65000+n, 1<<31-500+n, max32-n)
	}
	for _, table := range tables() {
		for _, n := range numbers {
			if got := wire.Name(table, n); got != names()[max(0, min(table, 8))][n] {
				t.Errorf("Name(%d, %d): %q", table, n, got)
			}
		}
	}
}

// P8.7, P8.8: every name in every table, and what is nearly one.
func TestNumber(t *testing.T) {
	words := []string{"", " ", "0", "1", "none ", "base", "base:", "spindle:", "\x00", "\xff", strings.Repeat("a", 5000)}
	for _, rows := range names() {
		for _, name := range rows {
			words = append(words, name, strings.ToUpper(name), strings.ToUpper(name[:1])+name[1:], name+" ", " "+name, name[1:], name[:len(name)-1], name+"\x00", strings.ReplaceAll(name, "-", "_"))
		}
	}
	for _, table := range tables() {
		for _, name := range words {
			wanted, ok := uint32(0), false
			for n, known := range names()[max(0, min(table, 8))] {
				if known == name {
					wanted, ok = n, true
				}
			}
			if got, found := wire.Number(table, name); got != wanted || found != ok {
				t.Errorf("Number(%d, %q): %d, %v", table, name, got, found)
			}
		}
	}
}

// P8.8: the number of a name is the number that has it.
func TestNumberOfName(t *testing.T) {
	for table, rows := range names() {
		for n := range rows {
			got, ok := wire.Number(table, wire.Name(table, n))
			want(t, fmt.Sprintf("the number of the name of %d in table %d", n, table), got, n)
			want(t, "it has one", ok, true)
		}
	}
}
