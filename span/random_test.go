package span_test

import (
	"fmt"
	"math/rand"

	"phrasebook/api"
)

// maker makes random valid definitions.
type maker struct {
	*rand.Rand
	d      api.Definition
	depths map[string]int
	loose  map[string]bool // messages that are not strict
}

// kinds are all kinds that exist, those with sizes and padding more often than the others.
var kinds = []api.Kind{
	api.KindUint, api.KindConst, api.KindVarint, api.KindBytes, api.KindUntil, api.KindHeaders,
	api.KindList, api.KindMessage, api.KindChoice, api.KindPad, api.KindCheck, api.KindView,
	api.KindUint, api.KindVarint, api.KindBytes, api.KindList, api.KindChoice, api.KindPad, api.KindPad,
}

// randomDefinition returns a valid definition.
func randomDefinition(random *rand.Rand) api.Definition {
	m := maker{random, api.Definition{Name: "d"}, map[string]int{}, map[string]bool{}}
	messages := 1 + random.Intn(12)
	if random.Intn(20) == 0 {
		messages = api.MaxMessages
	}
	for i := range messages {
		m.message(fmt.Sprintf("m%d", i))
	}
	m.d.Start = m.d.Messages[random.Intn(messages)].Name
	return m.d
}

func (m *maker) message(name string) {
	fields := 1 + m.Intn(10)
	if m.Intn(20) == 0 {
		fields = api.MaxFields
	}
	x := api.Message{Name: name}
	m.depths[name] = 1
	for i := range fields {
		f := api.Field{Name: fmt.Sprintf("f%d", i), Kind: kinds[m.Intn(len(kinds))]}
		for !m.fill(&f, x) {
			f = api.Field{Name: f.Name, Kind: kinds[m.Intn(len(kinds))]}
		}
		x.Fields = append(x.Fields, f)
		m.loose[name] = m.loose[name] || f.Loose
	}
	m.d.Messages = append(m.d.Messages, x)
}

// fill gives a field of a message what its kind uses, and reports whether it could.
func (m *maker) fill(f *api.Field, x api.Message) bool {
	switch f.Kind {
	case api.KindUint, api.KindConst:
		f.Little = m.Intn(5) == 0
		f.Bits = 1 + m.Intn(32)
		if f.Little {
			f.Bits = []int{16, 24, 32}[m.Intn(3)]
		}
		f.Low, f.High = m.between(1<<f.Bits - 1)
		if f.Kind == api.KindConst {
			f.High = 0
		}
	case api.KindVarint:
		f.Loose = m.Intn(9) == 0
		f.Low, f.High = m.between(api.MaxVarint - 1)
	case api.KindUntil:
		f.Low, f.High = m.Intn(256), m.Intn(api.MaxLength+1)
	case api.KindHeaders:
		f.Loose = m.Intn(9) == 0
		f.High = 2 + m.Intn(api.MaxLength-1)
	case api.KindPad:
		f.Bits = []int{2, 4, 8, 16, 24, 512}[m.Intn(6)]
	case api.KindCheck:
		if len(x.Fields) == 0 {
			return false
		}
		f.Check, f.From = 1+m.Intn(3), x.Fields[m.Intn(len(x.Fields))].Name
	case api.KindBytes:
		f.Size = m.size(x)
	case api.KindChoice:
		return m.choice(f, x)
	case api.KindView:
		f.Size, f.Key = m.size(x), m.Intn(1<<32)>>m.Intn(33)
		return m.refer(&f.Of, x, true)
	case api.KindList:
		f.Size = m.size(x)
		return m.refer(&f.Of, x, false)
	case api.KindMessage:
		return m.refer(&f.Of, x, false)
	}
	return true
}

// between returns two numbers from 0 to a greatest one, in order.
func (m *maker) between(most int) (low, high int) {
	low = m.Intn(most+1) >> m.Intn(36)
	return low, low + m.Intn(most-low+1)>>m.Intn(36)
}

// refer chooses a message that is not yet too deep, and strict if it has to be.
func (m *maker) refer(of *string, x api.Message, strict bool) bool {
	if len(m.d.Messages) == 0 {
		return false
	}
	name := m.d.Messages[m.Intn(len(m.d.Messages))].Name
	if m.depths[name] >= api.MaxDepth || strict && m.loose[name] {
		return false
	}
	*of = name
	m.depths[x.Name] = max(m.depths[x.Name], 1+m.depths[name])
	m.loose[x.Name] = m.loose[x.Name] || m.loose[name]
	return true
}

// numbers returns the numbers of a message, with Low as High for those that are constant.
func numbers(x api.Message) []api.Field {
	var l []api.Field
	for _, f := range x.Fields {
		switch f.Kind {
		case api.KindConst:
			f.High = f.Low
			l = append(l, f)
		case api.KindUint, api.KindVarint:
			l = append(l, f)
		}
	}
	return l
}

// size returns a size that depends on up to four numbers of a message.
func (m *maker) size(x api.Message) api.Size {
	l := numbers(x)
	var s api.Size
	low, high := 0, 0
	for _, i := range m.Perm(len(l))[:min(len(l), m.Intn(5))] {
		factor := 1 + m.Intn(9)
		if m.Intn(2) == 0 {
			factor = -factor
		}
		a, b := factor*l[i].Low, factor*l[i].High
		if high-low+max(a, b)-min(a, b) > api.MaxLength {
			continue
		}
		low, high = low+min(a, b), high+max(a, b)
		s.Terms = append(s.Terms, api.Term{Field: l[i].Name, Factor: factor})
	}
	// The base is the least possible one, the greatest one, or one between them.
	least, most := max(-low, -api.MaxLength), min(api.MaxLength-high, api.MaxLength)
	if least > most {
		return api.Size{Base: m.Intn(api.MaxLength + 1)}
	}
	s.Base = []int{least, most, least + m.Intn(most-least+1)}[m.Intn(3)]
	return s
}

// choice chooses a tag that is not yet one, and cases.
func (m *maker) choice(f *api.Field, x api.Message) bool {
	taken := map[string]bool{}
	for _, other := range x.Fields {
		taken[other.Tag] = true
	}
	l := numbers(x)
	if len(l) == 0 || len(m.d.Messages) == 0 {
		return false
	}
	tag := l[m.Intn(len(l))]
	if taken[tag.Name] {
		return false
	}
	f.Tag = tag.Name
	low := tag.Low
	for range 1 + m.Intn(api.MaxCases)>>m.Intn(6) {
		if low > tag.High {
			break
		}
		c := api.Case{Low: low + m.Intn(tag.High-low+1)>>m.Intn(36)}
		c.High = c.Low + m.Intn(tag.High-c.Low+1)>>m.Intn(36)
		if !m.refer(&c.Of, x, false) {
			break
		}
		f.Cases = append(f.Cases, c)
		low = c.High + 1
	}
	return len(f.Cases) > 0
}
