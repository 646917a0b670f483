package token

import "strings"

// Place is a line and a column, both from 1 on.
type Place struct{ Line, Column int }

// advance moves a place behind a text that begins there.
func (p *Place) advance(text string) {
	if last := strings.LastIndexByte(text, '\n'); last >= 0 {
		p.Line += strings.Count(text, "\n")
		p.Column = 1
		text = text[last+1:]
	}
	p.Column += len(text)
}
