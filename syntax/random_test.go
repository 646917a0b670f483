package syntax_test

import (
	"fmt"
	"maps"
	"math/rand"
	"slices"
	"strings"

	"phrasebook/api"
	"phrasebook/schema"
	"phrasebook/token"
)

// maker makes random definitions.
type maker struct {
	*rand.Rand
	flawed bool // whether what it makes may have flaws
	d      api.Definition
}

// randomDefinition returns a definition that has a text. It may have flaws only if that is wanted.
func randomDefinition(random *rand.Rand, flawed bool) api.Definition {
	m := maker{random, flawed, api.Definition{Name: "p"}}
	for i := range 1 + random.Intn(6) {
		m.d.Start = fmt.Sprintf("m%d", i)
		m.d.Messages = append(m.d.Messages, api.Message{Name: m.d.Start})
		m.message(&m.d.Messages[i])
	}
	if flawed && random.Intn(9) == 0 {
		m.d.Start = "x"
	}
	return m.d
}

// message gives a message some fields, of which it keeps those that may stand there.
func (m *maker) message(x *api.Message) {
	for len(x.Fields) == 0 {
		for i := range 1 + m.Intn(12) {
			name := fmt.Sprintf("f%d", i)
			if m.flawed && m.Intn(30) == 0 {
				name = "f0"
			}
			x.Fields = append(x.Fields, m.field(name, *x))
			if !schema.Valid(m.d) && !(m.flawed && m.Intn(20) == 0) {
				x.Fields = x.Fields[:len(x.Fields)-1]
			}
		}
	}
	if m.flawed && m.Intn(20) == 0 {
		x.Fields = nil
	}
}

// field returns a field of any kind, which may stand behind those of a message in many cases.
func (m *maker) field(name string, x api.Message) api.Field {
	f := api.Field{Name: name, Kind: api.Kind(1 + m.Intn(12))}
	switch f.Kind {
	case api.KindUint, api.KindConst:
		f.Bits = []int{8, 16, 24, 32, 1 + m.Intn(32)}[m.Intn(5)]
		f.Little = m.Intn(3) == 0
		f.Low, f.High = m.between(1<<f.Bits - 1)
		if f.Kind == api.KindConst {
			f.High = 0
		}
	case api.KindVarint:
		f.Loose = m.Intn(9) == 0
		f.Low, f.High = m.between(api.MaxVarint - 1)
	case api.KindBytes:
		f.Size = m.size(x)
	case api.KindUntil:
		f.Low, f.High = m.Intn(256), m.Intn(api.MaxLength+1)
	case api.KindHeaders:
		f.Loose = m.Intn(9) == 0
		f.High = 2 + m.Intn(api.MaxLength-1)
	case api.KindPad:
		f.Bits = []int{2, 4, 8, 16, 512}[m.Intn(5)]
	case api.KindCheck:
		f.Check, f.From = 1+m.Intn(3), m.earlier(x)
	case api.KindMessage:
		f.Of = m.other()
	case api.KindList:
		f.Of, f.Size = m.other(), m.size(x)
	case api.KindView:
		f.Of, f.Size, f.Key = m.other(), m.size(x), m.Intn(1<<32)>>m.Intn(33)
	case api.KindChoice:
		f.Tag = m.number(x)
		f.Cases = m.cases(schema.Ranges(x)[f.Tag].Low)
	}
	return f
}

// between returns two numbers from 0 to a greatest one, mostly in order.
func (m *maker) between(most int) (low, high int) {
	low = m.Intn(most+1) >> m.Intn(36)
	high = low + m.Intn(most-low+1)>>m.Intn(36)
	if m.flawed && m.Intn(30) == 0 {
		return high, low
	}
	return low, high
}

// earlier returns the name of a field of a message, or seldom another one.
func (m *maker) earlier(x api.Message) string {
	if len(x.Fields) == 0 || m.flawed && m.Intn(30) == 0 {
		return "x"
	}
	return x.Fields[m.Intn(len(x.Fields))].Name
}

// number returns the name of a number of a message, if it has one.
func (m *maker) number(x api.Message) string {
	names := slices.Sorted(maps.Keys(schema.Ranges(x)))
	if len(names) == 0 || m.flawed && m.Intn(30) == 0 {
		return m.earlier(x)
	}
	return names[m.Intn(len(names))]
}

// other returns the name of a message, or seldom another one.
func (m *maker) other() string {
	if m.flawed && m.Intn(10) == 0 {
		return "f0"
	}
	return m.d.Messages[m.Intn(len(m.d.Messages))].Name
}

// size returns a valid size of fields of a message.
func (m *maker) size(x api.Message) api.Size {
	s := sized(m.Intn(api.MaxLength+1) >> m.Intn(21))
	if m.Intn(3) == 0 {
		s.Base = -s.Base
	}
	taken := map[string]bool{}
	for range m.Intn(5) {
		if name := m.number(x); !taken[name] {
			taken[name] = true
			s.Terms = append(s.Terms, term([]int{1, -1, 2, -3, 10, 1 + m.Intn(api.MaxLength)}[m.Intn(6)], name))
		}
	}
	return s
}

// cases returns cases for a tag from a least number on, mostly in their order.
func (m *maker) cases(low int) []api.Case {
	var l []api.Case
	for range 1 + m.Intn(6)>>m.Intn(3) {
		c := api.Case{Low: low, High: low + m.Intn(3), Of: m.other()}
		l = append(l, c)
		low = c.High + 1 + m.Intn(3)
		if m.flawed && m.Intn(9) == 0 {
			low = c.High
		}
	}
	return l
}

// spelled returns the texts of the tokens of a definition. Some numbers that are not part of a
// size have another text than the printed one.
func spelled(random *rand.Rand, d api.Definition) []string {
	write := func(form string, parts ...any) string {
		for i, x := range parts {
			if n, is := x.(int); is {
				parts[i] = fmt.Sprintf([]string{"%d", "%d", "0x%x", "0x%X", "0x00%x"}[random.Intn(5)], n)
			}
		}
		return fmt.Sprintf(form, parts...)
	}
	text := fmt.Sprintf("protocol %s ; ", d.Name)
	for _, m := range d.Messages {
		text += fmt.Sprintf("message %s { ", m.Name)
		for _, f := range m.Fields {
			text += f.Name + " : " + spelledKind(write, f) + " ; "
		}
		text += "} "
	}
	return strings.Fields(text + fmt.Sprintf("start %s ;", d.Start))
}

func spelledKind(write func(string, ...any) string, f api.Field) string {
	mark := func(is bool, word string) string { return strings.Repeat(word, map[bool]int{true: 1}[is]) }
	switch f.Kind {
	case api.KindUint:
		return write("uint %s %s %s .. %s", f.Bits, mark(f.Little, "little"), f.Low, f.High)
	case api.KindConst:
		return write("const %s %s = %s", f.Bits, mark(f.Little, "little"), f.Low)
	case api.KindVarint:
		return write("varint %s .. %s %s", f.Low, f.High, mark(f.Loose, "loose"))
	case api.KindBytes:
		return "bytes " + spelledSize(f.Size)
	case api.KindUntil:
		return write("until %s max %s", f.Low, f.High)
	case api.KindHeaders:
		return write("headers max %s %s", f.High, mark(f.Loose, "loose"))
	case api.KindList:
		return "list " + spelledSize(f.Size) + " of " + f.Of
	case api.KindMessage:
		return "message " + f.Of
	case api.KindPad:
		return write("pad %s", f.Bits)
	case api.KindCheck:
		return write("check %s from %s", f.Check, f.From)
	case api.KindView:
		return "view " + spelledSize(f.Size) + write(" of %s key %s", f.Of, f.Key)
	}
	text := "choice " + f.Tag + " { "
	for _, c := range f.Cases {
		text += write("%s .. %s : %s ; ", c.Low, c.High, c.Of)
	}
	return text + "}"
}

func spelledSize(s api.Size) string {
	text := ""
	for _, x := range s.Terms {
		sign := " + "
		if x.Factor < 0 {
			sign, x.Factor = " - ", -x.Factor
		}
		text += sign
		if x.Factor > 1 {
			text += fmt.Sprintf("%d * ", x.Factor)
		}
		text += x.Field
	}
	switch {
	case s.Base < 0:
		text += fmt.Sprintf(" - %d", -s.Base)
	case s.Base > 0 || text == "":
		text += fmt.Sprintf(" + %d", s.Base)
	}
	return "[ " + strings.TrimPrefix(text, " + ") + " ]"
}

// arranged returns a text of some tokens with blanks and comments between them, and the places of
// the tokens.
func arranged(random *rand.Rand, tokens []string) (string, []token.Place) {
	text, places := "", []token.Place{}
	for i, x := range tokens {
		gap := ""
		for range random.Intn(3) {
			gap += []string{" ", "\t", "\n", "\r\n", "#\n", "# ; } ] \" $ #\n"}[random.Intn(6)]
		}
		if gap == "" && i > 0 && !apart(tokens[i-1], x) {
			gap = " "
		}
		text += gap
		places = append(places, placeOf(text, len(text)))
		text += x
	}
	return text + []string{"", " ", "\n", "# ;"}[random.Intn(4)], places
}

// apart reports whether two tokens are the same ones if nothing stands between them.
func apart(a, b string) bool {
	l, _, e := token.Scan(a + b)
	return e == api.OK && len(l) == 2 && l[1].Place == place(1, 1+len(a))
}
