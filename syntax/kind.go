package syntax

import (
	"strings"

	"phrasebook/api"
)

// kind is how a kind of fields is written: a word, and what stands behind it.
type kind struct {
	word  string
	read  func(*parser, *api.Field)
	write func(api.Field) string
}

func kinds() map[api.Kind]kind {
	return map[api.Kind]kind{
		api.KindUint:    {"uint", readUint, writeUint},
		api.KindConst:   {"const", readConst, writeConst},
		api.KindVarint:  {"varint", readVarint, writeVarint},
		api.KindBytes:   {"bytes", readBytes, writeBytes},
		api.KindUntil:   {"until", readUntil, writeUntil},
		api.KindHeaders: {"headers", readHeaders, writeHeaders},
		api.KindList:    {"list", readList, writeList},
		api.KindMessage: {"message", readMessage, writeMessage},
		api.KindChoice:  {"choice", readChoice, writeChoice},
		api.KindPad:     {"pad", readPad, writePad},
		api.KindCheck:   {"check", readCheck, writeCheck},
		api.KindView:    {"view", readView, writeView},
	}
}

func readUint(p *parser, f *api.Field) {
	f.Bits = p.number()
	f.Little = p.maybe("little")
	f.Low, f.High = p.between()
}

func writeUint(f api.Field) string {
	return spaced(decimal(f.Bits), only(f.Little, "little"), between(f.Low, f.High))
}

func readConst(p *parser, f *api.Field) {
	f.Bits = p.number()
	f.Little = p.maybe("little")
	f.Low = p.number("=")
}

func writeConst(f api.Field) string {
	return spaced(decimal(f.Bits), only(f.Little, "little"), "=", decimal(f.Low))
}

func readVarint(p *parser, f *api.Field) {
	f.Low, f.High = p.between()
	f.Loose = p.maybe("loose")
}

func writeVarint(f api.Field) string {
	return spaced(between(f.Low, f.High), only(f.Loose, "loose"))
}

func readBytes(p *parser, f *api.Field) { f.Size = p.size() }

func writeBytes(f api.Field) string { return bracketed(f.Size) }

func readUntil(p *parser, f *api.Field) {
	f.Low = p.number()
	f.High = p.number("max")
}

func writeUntil(f api.Field) string { return spaced(decimal(f.Low), "max", decimal(f.High)) }

func readHeaders(p *parser, f *api.Field) {
	f.High = p.number("max")
	f.Loose = p.maybe("loose")
}

func writeHeaders(f api.Field) string {
	return spaced("max", decimal(f.High), only(f.Loose, "loose"))
}

func readList(p *parser, f *api.Field) {
	f.Size = p.size()
	f.Of = p.name("of")
}

func writeList(f api.Field) string { return spaced(bracketed(f.Size), "of", f.Of) }

func readMessage(p *parser, f *api.Field) { f.Of = p.name() }

func writeMessage(f api.Field) string { return f.Of }

func readChoice(p *parser, f *api.Field) {
	f.Tag = p.name()
	p.take("{")
	f.Cases = list(p, "}", func() api.Case {
		var c api.Case
		c.Low, c.High = p.between()
		c.Of = p.name(":")
		p.take(";")
		return c
	})
}

func writeChoice(f api.Field) string {
	var cases strings.Builder
	for _, c := range f.Cases {
		cases.WriteString(between(c.Low, c.High) + ": " + c.Of + "; ")
	}
	return spaced(f.Tag, "{", cases.String()) + "}"
}

func readPad(p *parser, f *api.Field) { f.Bits = p.number() }

func writePad(f api.Field) string { return decimal(f.Bits) }

func readCheck(p *parser, f *api.Field) {
	f.Check = p.number()
	f.From = p.name("from")
}

func writeCheck(f api.Field) string { return spaced(decimal(f.Check), "from", f.From) }

func readView(p *parser, f *api.Field) {
	f.Size = p.size()
	f.Of = p.name("of")
	f.Key = p.number("key")
}

func writeView(f api.Field) string {
	return spaced(bracketed(f.Size), "of", f.Of, "key", decimal(f.Key))
}

// between reads the two ends of a range.
func (p *parser) between() (low, high int) {
	low = p.number()
	high = p.number("..")
	return low, high
}
