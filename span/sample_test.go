package span_test

import (
	"math/rand"
	"testing"

	"phrasebook/api"
	"phrasebook/schema"
	"phrasebook/size"
	"phrasebook/span"
)

// sampler chooses numbers of messages at random, and adds up how many bits these then have.
type sampler struct {
	*rand.Rand
	d api.Definition
}

// among returns a number in a range, often one of its ends.
func (s *sampler) among(low, high int) int {
	switch s.Intn(4) {
	case 0:
		return low
	case 1:
		return high
	}
	return low + s.Intn(high-low+1)
}

// numbers chooses the numbers of a message, so that each choice has a case.
func (s *sampler) numbers(m api.Message) map[string]int {
	values := map[string]int{}
	for _, f := range m.Fields {
		switch f.Kind {
		case api.KindConst:
			values[f.Name] = f.Low
		case api.KindUint, api.KindVarint:
			values[f.Name] = s.among(f.Low, f.High)
		case api.KindChoice:
			c := f.Cases[s.Intn(len(f.Cases))]
			values[f.Tag] = s.among(c.Low, c.High)
		}
	}
	return values
}

// sum returns the sum of two numbers of bits, which are at most the greatest one.
func sum(a, b int) int { return min(a+b, most) }

// message chooses a message, and checks that its fields are where they may be.
func (s *sampler) message(t *testing.T, name string) int {
	i, _ := schema.Find(s.d, name)
	m := s.d.Messages[i]
	values := s.numbers(m)
	bits := 0
	for j, f := range m.Fields {
		at, _ := span.Position(s.d, i, j)
		within(t, exactly(bits), at, "position of "+f.Name)
		length := s.field(t, f, values, bits)
		r, _ := span.Field(s.d, i, j)
		within(t, exactly(length), r, "span of "+f.Name)
		bits = sum(bits, length)
	}
	r, _ := span.Message(s.d, i)
	within(t, exactly(bits), r, name)
	return bits
}

// field chooses a field that begins behind some bits.
func (s *sampler) field(t *testing.T, f api.Field, values map[string]int, at int) int {
	count, _ := size.Length(f.Size, values)
	switch f.Kind {
	case api.KindVarint:
		if f.Loose {
			return 8 * s.among(octets(values[f.Name]), 5)
		}
		return 8 * octets(values[f.Name])
	case api.KindBytes, api.KindView:
		return 8 * count
	case api.KindUntil:
		return 8 + 8*s.among(0, f.High)
	case api.KindHeaders:
		return 8 * s.among(2, f.High)
	case api.KindList:
		// Of many messages, some are chosen and all others are like the first one.
		if count == 0 {
			return 0
		}
		one := s.message(t, f.Of)
		bits := one
		for range min(count-1, 2) {
			bits = sum(bits, s.message(t, f.Of))
		}
		return sum(bits, max(count-3, 0)*one)
	case api.KindMessage:
		return s.message(t, f.Of)
	case api.KindChoice:
		c, _ := schema.Case(f, values[f.Tag])
		return s.message(t, f.Cases[c].Of)
	case api.KindPad:
		if at == most {
			return 0
		}
		return (f.Bits - at%f.Bits) % f.Bits
	case api.KindCheck:
		return []int{0, 16, 16, 32}[f.Check]
	}
	return f.Bits
}

// TestMessagesAreWithinTheirSpans chooses messages at random and measures them.
func TestMessagesAreWithinTheirSpans(t *testing.T) {
	random := rand.New(rand.NewSource(87))
	for range 100 {
		d := randomDefinition(random)
		if len(d.Messages) > 5 {
			continue
		}
		s := sampler{random, d}
		for _, m := range d.Messages {
			for range 2 {
				s.message(t, m.Name)
			}
		}
	}
}

// TestBothEndsOccur has messages whose numbers are used once, so that each length between the ends,
// and no other one, is that of a choice of numbers.
func TestBothEndsOccur(t *testing.T) {
	random := rand.New(rand.NewSource(88))
	d := defined(t, "message a { n: uint 8 2..4; b: bytes [n]; } message b { v: varint 100..200; } "+
		"message m { n: uint 4 0..2; x: uint 2 0..1; p: pad 8; l: list [n] of a; s: choice x { 0..0: a; 1..1: b; }; h: until 0 max 2; q: pad 32; }")
	for i, m := range d.Messages {
		least, greatest := most, 0
		s := sampler{random, d}
		for range 1000 {
			n := s.message(t, m.Name)
			least, greatest = min(least, n), max(greatest, n)
		}
		if r, e := span.Message(d, i); r != between(least, greatest) || e != api.OK {
			t.Errorf("%s: %v, code %d, but from %d to %d", m.Name, r, e, least, greatest)
		}
	}
}
