package words

import "strings"

// A Page is a text that is being written, line by line.
type Page struct {
	text strings.Builder
}

// Add writes a line, with a blank between its words.
func (p *Page) Add(words ...string) {
	p.text.WriteString(strings.Join(words, " "))
	p.text.WriteByte('\n')
}

// Text gives what was written.
func (p *Page) Text() string { return p.text.String() }

// AddText writes whole lines as they stand.
func (p *Page) AddText(lines string) { p.text.WriteString(lines) }
