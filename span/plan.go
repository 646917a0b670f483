package span

import (
	"iter"
	"math/bits"

	"phrasebook/api"
	"phrasebook/schema"
	"phrasebook/size"
)

// plan says how many bits the fields of a message take.
type plan struct {
	api.Message
	numbers map[string]api.Range
	spans   map[string]api.Range // of the messages ahead of it
	kinds   map[api.Kind]func(api.Field) api.Range
}

// plans returns the plans of the messages of a valid definition.
func plans(messages []api.Message) []*plan {
	spans := map[string]api.Range{}
	var l []*plan
	for _, m := range messages {
		p := newPlan(m, spans)
		l = append(l, p)
		// A message refers only to those ahead of it, so each one finds all that it needs.
		spans[m.Name] = p.whole()
	}
	return l
}

func newPlan(m api.Message, spans map[string]api.Range) *plan {
	p := &plan{Message: m, numbers: schema.Ranges(m), spans: spans}
	p.kinds = map[api.Kind]func(api.Field) api.Range{
		api.KindUint:    p.plain,
		api.KindConst:   p.plain,
		api.KindVarint:  p.varint,
		api.KindBytes:   p.octets,
		api.KindUntil:   p.until,
		api.KindHeaders: p.headers,
		api.KindList:    p.list,
		api.KindMessage: p.nested,
		api.KindChoice:  p.choice,
		api.KindPad:     p.pad,
		api.KindCheck:   p.check,
		api.KindView:    p.octets,
	}
	return p
}

// span returns the span of a field.
func (p *plan) span(f api.Field) api.Range { return p.kinds[f.Kind](f) }

// whole returns the span of the message.
func (p *plan) whole() api.Range { return p.position(len(p.Fields)) }

// position returns the position of a field, or that of a further one behind the last one.
func (p *plan) position(field int) api.Range {
	var found api.Range
search:
	for i, at := range p.positions() {
		if i == field {
			found = at
			break search
		}
	}
	return found
}

// positions yields the positions of the fields, and of a further one.
func (p *plan) positions() iter.Seq2[int, api.Range] {
	return func(yield func(int, api.Range) bool) {
		var at api.Range
		for i, f := range p.Fields {
			if !yield(i, at) {
				return
			}
			at = p.behind(f, at)
		}
		yield(len(p.Fields), at)
	}
}

// behind returns the position behind a field.
func (p *plan) behind(f api.Field, at api.Range) api.Range {
	// Padding goes on from where it is: its span does not say how much of it is needed there.
	if f.Kind == api.KindPad {
		return both(func(of end) int { return units(of(at), f.Bits) * f.Bits })
	}
	span := p.span(f)
	return both(func(of end) int { return of(at) + of(span) })
}

func (p *plan) plain(f api.Field) api.Range { return exactly(f.Bits) }

func (p *plan) varint(f api.Field) api.Range {
	r := both(func(of end) int { return 8 * groups(of(api.Range{Low: f.Low, High: f.High})) })
	if f.Loose {
		r.High = 8 * groups(api.MaxVarint-1)
	}
	return r
}

// groups returns the number of groups of seven bits that a number needs.
func groups(n int) int { return max(1, units(bits.Len(uint(n)), 7)) }

func (p *plan) octets(f api.Field) api.Range {
	count := p.count(f)
	return both(func(of end) int { return 8 * of(count) })
}

// count returns between which numbers the size of a field is.
func (p *plan) count(f api.Field) api.Range {
	r, _ := size.Interval(f.Size, p.numbers)
	return r
}

func (p *plan) until(f api.Field) api.Range { return api.Range{Low: 8, High: 8 * (f.High + 1)} }

func (p *plan) headers(f api.Field) api.Range { return api.Range{Low: 16, High: 8 * f.High} }

func (p *plan) list(f api.Field) api.Range {
	count, one := p.count(f), p.nested(f)
	return both(func(of end) int { return of(count) * of(one) })
}

func (p *plan) nested(f api.Field) api.Range { return p.spans[f.Of] }

func (p *plan) choice(f api.Field) api.Range {
	all := p.spans[f.Cases[0].Of]
	for _, c := range f.Cases {
		one := p.spans[c.Of]
		all = api.Range{Low: min(all.Low, one.Low), High: max(all.High, one.High)}
	}
	return all
}

func (p *plan) pad(f api.Field) api.Range { return api.Range{High: f.Bits - 1} }

func (p *plan) check(f api.Field) api.Range {
	if f.Check == 3 {
		return exactly(32)
	}
	return exactly(16)
}
