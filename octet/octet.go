// Package octet is layer 1: numbers, bytes and texts laid down and taken up again, the check sum, digits and quotes. See shared/doc/01-octet.md.
package octet

import (
	"strings"
	"unicode/utf8"
)

// Plain tells whether s is a text: valid UTF-8 without a byte 0.
func Plain(s string) bool {
	return utf8.ValidString(s) && strings.IndexByte(s, 0) < 0
}
