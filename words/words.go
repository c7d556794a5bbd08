// Package words cuts texts into lines, and lines into words, bare and quoted ones: what scripts and an operator's commands have in common.
package words

import (
	"strings"

	"spindle/api"
	"spindle/octet"
)

const blanks = " \t"

// Lines cuts a text into its lines. Bytes behind the last end of a line are a line, if there are any.
func Lines(text string) []string {
	lines := strings.Split(text, "\n")
	if last := len(lines) - 1; lines[last] == "" {
		return lines[:last]
	}
	return lines
}

// Silent tells whether a line says nothing. What stands behind a # need not be words.
func Silent(line string) bool {
	line = strings.TrimLeft(line, blanks)
	return line == "" || line[0] == '#'
}

// A word is a bare one as it stands, or what a quoted one says.
type word struct {
	text   string
	quoted bool
}

// cut cuts a line into its words, unless one begins with a quotation mark and is no quoted text.
func cut(line string) ([]word, bool) {
	var out []word
	for {
		line = strings.TrimLeft(line, blanks)
		if line == "" {
			return out, true
		}
		size := bareSize(line)
		if line[0] == '"' {
			size = quotedSize(line)
		}
		w, ok := wordOf(line[:size])
		if !ok || size < len(line) && !isBlank(line[size]) {
			return nil, false
		}
		out = append(out, w)
		line = line[size:]
	}
}

func isBlank(b byte) bool { return strings.IndexByte(blanks, b) >= 0 }

// bareSize tells how many bytes the word has with which a line begins, if it is a bare one.
func bareSize(line string) int {
	if end := strings.IndexAny(line, blanks); end >= 0 {
		return end
	}
	return len(line)
}

// quotedSize tells how many bytes it has if it is a quoted one: all that there are, if it does not end.
func quotedSize(line string) int {
	for i := 1; i < len(line); i++ {
		switch line[i] {
		case '\\':
			i++ // the byte behind ends nothing
		case '"':
			return i + 1
		}
	}
	return len(line)
}

func wordOf(text string) (word, bool) {
	if text[0] != '"' {
		return word{text: text}, true
	}
	said, e := octet.Unquote(text)
	return word{text: said, quoted: true}, e == api.OK
}
