package span_test

import (
	"fmt"
	"math"
	"math/rand"
	"slices"
	"testing"

	"phrasebook/api"
	"phrasebook/schema"
	"phrasebook/span"
)

// all returns the spans of all messages of a definition.
func all(t *testing.T, d api.Definition) []api.Range {
	t.Helper()
	var l []api.Range
	for i := range d.Messages {
		r, e := span.Message(d, i)
		if e != api.OK {
			t.Fatalf("code %d of message %d of %+v", e, i, d)
		}
		l = append(l, r)
	}
	return l
}

// within checks that a range lies in another one.
func within(t *testing.T, inner, outer api.Range, what string) {
	t.Helper()
	if inner.Low < outer.Low || inner.High > outer.High {
		t.Fatalf("%s: %v is not within %v", what, inner, outer)
	}
}

func TestLowerEndsAreNotAboveUpperOnes(t *testing.T) {
	random := rand.New(rand.NewSource(82))
	for range 25 {
		d := randomDefinition(random)
		for i, m := range d.Messages {
			whole, _ := span.Message(d, i)
			length, _ := span.Length(d, i)
			ranges := []api.Range{whole, length}
			for j := range m.Fields {
				r, _ := span.Field(d, i, j)
				at, _ := span.Position(d, i, j)
				ranges = append(ranges, r, at)
			}
			for _, r := range ranges {
				if r.Low < 0 || r.Low > r.High || r.High > span.MaxSpan {
					t.Fatalf("%v in message %d of %+v", r, i, d)
				}
			}
		}
	}
}

// TestFurtherField cuts messages before a field: its position is the span of what is left, and none
// is below that.
func TestFurtherField(t *testing.T) {
	random := rand.New(rand.NewSource(83))
	for range 40 {
		d := randomDefinition(random)
		last := len(d.Messages) - 1
		d.Start = d.Messages[last].Name
		m := d.Messages[last]
		at, _ := span.Message(d, last)
		for n := len(m.Fields) - 1; n > 0; n-- {
			behind := at
			at, _ = span.Position(d, last, n)
			d.Messages[last].Fields = m.Fields[:n]
			whole, e := span.Message(d, last)
			if whole != at || e != api.OK || whole.Low > behind.Low || whole.High > behind.High {
				t.Fatalf("%v, code %d, and not %v without field %d, %v with it, in %+v", whole, e, at, n, behind, m)
			}
			d.Messages[last].Fields = m.Fields
		}
	}
}

// TestFurtherFieldOfEachKind puts a field behind messages, whose position is the span without it.
func TestFurtherFieldOfEachKind(t *testing.T) {
	random := rand.New(rand.NewSource(84))
	for range 100 {
		d := randomDefinition(random)
		last := len(d.Messages) - 1
		m := d.Messages[last]
		if len(m.Fields) == api.MaxFields {
			continue
		}
		before, _ := span.Message(d, last)
		from := m.Fields[random.Intn(len(m.Fields))].Name
		for _, f := range []api.Field{
			{Kind: api.KindUint, Bits: 1}, {Kind: api.KindConst, Bits: 32}, {Kind: api.KindVarint}, {Kind: api.KindBytes}, {Kind: api.KindUntil},
			{Kind: api.KindHeaders, High: 2}, {Kind: api.KindPad, Bits: 2}, {Kind: api.KindPad, Bits: 504}, {Kind: api.KindCheck, Check: 1, From: from},
		} {
			f.Name = "further"
			d.Messages[last].Fields = append(slices.Clip(m.Fields), f)
			at, e := span.Position(d, last, len(m.Fields))
			after, g := span.Message(d, last)
			if at != before || after.Low < before.Low || after.High < before.High || e != api.OK || g != api.OK {
				t.Fatalf("%v, code %d, from %v, code %d, and not from %v, with %+v behind %+v", after, g, at, e, before, f, m)
			}
			if f.Kind == api.KindPad && (after.Low%f.Bits+after.High%f.Bits != 0 && after.High < most || after.Low >= before.Low+f.Bits || after.High >= before.High+f.Bits) {
				t.Fatalf("%v is not %v, rounded up to %d", after, before, f.Bits)
			}
		}
	}
}

// TestWiderNumbers raises the High of numbers, also where what depends on them has the factor below zero.
func TestWiderNumbers(t *testing.T) {
	random := rand.New(rand.NewSource(85))
	valid, changed := 0, 0
	for range 60 {
		d := randomDefinition(random)
		before := all(t, d)
		wide := schema.Copy(d)
		for range 30 {
			i := random.Intn(len(d.Messages))
			j := random.Intn(len(d.Messages[i].Fields))
			f := &wide.Messages[i].Fields[j]
			if f.Kind != api.KindUint && f.Kind != api.KindVarint {
				continue
			}
			f.High += 1 + random.Intn(1<<20)>>random.Intn(20)
			if !schema.Valid(wide) {
				f.High = d.Messages[i].Fields[j].High
				continue
			}
			valid++
			after := all(t, wide)
			for k, r := range after {
				within(t, before[k], r, d.Messages[k].Name)
			}
			if !slices.Equal(before, after) {
				changed++
			}
			f.High = d.Messages[i].Fields[j].High
		}
	}
	if valid < 150 || changed < 20 {
		t.Errorf("%d numbers could be widened, %d of them mattered", valid, changed)
	}
}

// TestWiderNumbersOfSizes raises the High of a number on which sizes depend in both directions.
func TestWiderNumbersOfSizes(t *testing.T) {
	for high := 3; high <= 50; high++ {
		d := defined(t, fmt.Sprintf("message a { v: varint 3..%d; b: bytes [v]; } message m { n: uint 8 3..%d; l: list [n] of a; b: bytes [-2*n+100]; p: pad 32; w: view [3*n-5] of a key 0; }", high, high))
		whole := between(32, 8+8*high)
		spans(t, d, 0, whole, field{exactly(0), exactly(8)}, field{exactly(8), between(24, 8*high)})
		list, rest := between(3*32, high*whole.High), between(8*(100-2*high), 8*94)
		at := between(8+list.Low, 8+list.High)
		behind := between(at.Low+rest.Low, at.High+rest.High)
		padded := between((behind.Low+31)/32*32, (behind.High+31)/32*32)
		spans(t, d, 1, between(padded.Low+32, padded.High+8*(3*high-5)),
			field{exactly(0), exactly(8)}, field{exactly(8), list}, field{at, rest}, field{behind, between(0, 31)}, field{padded, between(32, 8*(3*high-5))})
	}
}

func TestMessageThatConsistsOfAnother(t *testing.T) {
	random := rand.New(rand.NewSource(86))
	for range 60 {
		d := randomDefinition(random)
		i := random.Intn(len(d.Messages))
		depth, _ := schema.Depth(d, i)
		if depth == api.MaxDepth || len(d.Messages) == api.MaxMessages {
			continue
		}
		whole, _ := span.Message(d, i)
		d.Messages = append(d.Messages, api.Message{Name: "outer", Fields: []api.Field{{Name: "o", Kind: api.KindMessage, Of: d.Messages[i].Name}}})
		spans(t, d, len(d.Messages)-1, whole, field{exactly(0), whole})
	}
}

// TestSpoiltDefinitions changes a part of a definition at random: what is not valid has no spans.
func TestSpoiltDefinitions(t *testing.T) {
	random := rand.New(rand.NewSource(91))
	extremes := []int{math.MinInt, -1 << 40, -1 << 20, -1, 0, 1, 2, 7, 255, 1 << 20, 1 << 32, 1 << 40, 1 << 60, math.MaxInt}
	spoilt := 0
	for range 300 {
		d := randomDefinition(random)
		if len(d.Messages) == api.MaxMessages {
			continue
		}
		i := random.Intn(len(d.Messages))
		j := random.Intn(len(d.Messages[i].Fields))
		f := &d.Messages[i].Fields[j]
		extreme := extremes[random.Intn(len(extremes))]
		switch random.Intn(10) {
		case 0:
			f.Kind = api.Kind(extreme)
		case 1:
			f.Bits = extreme
		case 2:
			f.Low = extreme
		case 3:
			f.High = extreme
		case 4:
			f.Size.Base = extreme
		case 5:
			f.Size.Terms = append(f.Size.Terms, api.Term{Field: "f0", Factor: extreme})
		case 6:
			f.Of = d.Messages[random.Intn(len(d.Messages))].Name
		case 7:
			f.Tag, f.From = f.From, f.Tag
		case 8:
			f.Cases = append(f.Cases, api.Case{Low: extreme, High: extreme, Of: "m0"})
		case 9:
			f.Check = extreme
		}
		if schema.Valid(d) {
			for _, r := range all(t, d) {
				within(t, r, between(0, most), d.Messages[i].Name)
			}
			continue
		}
		spoilt++
		refused(t, d, i, j, api.ErrArg, api.ErrArg)
		refused(t, d, extreme, extreme, api.ErrArg, api.ErrArg)
		for range span.Spans(d) {
			t.Fatalf("%+v is not valid", d)
		}
	}
	if spoilt < 150 {
		t.Errorf("only %d definitions are not valid", spoilt)
	}
}

func TestArgumentsStayAsTheyAre(t *testing.T) {
	random := rand.New(rand.NewSource(90))
	for range 8 {
		d := randomDefinition(random)
		before := fmt.Sprintf("%+v", d)
		for i, m := range d.Messages {
			span.Message(d, i)
			span.Length(d, i)
			span.Fixed(d, i)
			for j := range m.Fields {
				span.Field(d, i, j)
				span.Position(d, i, j)
			}
		}
		for range span.Spans(d) {
		}
		if after := fmt.Sprintf("%+v", d); after != before {
			t.Fatalf("%s is no longer %s", after, before)
		}
	}
}
