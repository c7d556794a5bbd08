package octet

import (
	"strings"
	"unicode/utf8"

	"spindle/api"
)

// Quote answers bytes as a quoted text.
func Quote(s string) string {
	var out strings.Builder
	out.WriteByte('"')
	for i, r := range s {
		switch {
		case r == '"' || r == '\\':
			out.WriteByte('\\')
			out.WriteRune(r)
		case r == '\n':
			out.WriteString("\\n")
		case r < ' ' || r == 0x7f || r == utf8.RuneError && !wholeRune(s[i:]):
			out.WriteString("\\x")
			out.WriteString(Hex([]byte{s[i]}))
		default:
			out.WriteRune(r)
		}
	}
	out.WriteByte('"')
	return out.String()
}

// wholeRune tells whether s begins with a valid rune: U+FFFD may stand in a string itself, and is what a range tells of a wrong byte as well.
func wholeRune(s string) bool {
	_, size := utf8.DecodeRuneInString(s)
	return size > 1
}

// Unquote reads it.
func Unquote(s string) (string, api.Errno) {
	body, ok := unmark(s)
	if !ok {
		return "", api.ErrQuote
	}
	out, ok := unescape(body)
	// Only what Quote writes is taken, so Quote is asked, rather than its rules said again.
	if !ok || Quote(out) != s {
		return "", api.ErrQuote
	}
	return out, api.OK
}

// unmark takes the quotation marks off.
func unmark(s string) (string, bool) {
	if len(s) < 2 || s[0] != '"' || s[len(s)-1] != '"' {
		return "", false
	}
	return s[1 : len(s)-1], true
}

// unescape puts the bytes that escapes stand for in their place; it takes more than Quote writes.
func unescape(s string) (string, bool) {
	var out strings.Builder
	for s != "" {
		b, size, ok := firstByte(s)
		if !ok {
			return "", false
		}
		out.WriteByte(b)
		s = s[size:]
	}
	return out.String(), true
}

// firstByte tells the byte that s, which is not empty, begins with, by an escape or as it is, and how many bytes of s that takes.
func firstByte(s string) (byte, int, bool) {
	switch {
	case s[0] != '\\':
		return s[0], 1, true
	case len(s) >= 2 && s[1] == 'n':
		return '\n', 2, true
	case len(s) >= 2 && (s[1] == '"' || s[1] == '\\'):
		return s[1], 2, true
	case len(s) >= 4 && s[1] == 'x':
		b, e := Unhex(s[2:4])
		if e != api.OK {
			return 0, 0, false
		}
		return b[0], 4, true
	}
	return 0, 0, false
}
