package span_test

import (
	"math/big"
	"math/rand"
	"testing"

	"phrasebook/api"
	"phrasebook/schema"
)

// exact computes one end of spans with numbers of any length, which are capped only at last.
type exact struct {
	d     api.Definition
	upper bool
	known map[string]*big.Int
}

func number(n int) *big.Int { return big.NewInt(int64(n)) }

func product(a, b *big.Int) *big.Int { return new(big.Int).Mul(a, b) }

// capped returns a number of bits, or the greatest one.
func capped(n *big.Int) int {
	if n.Cmp(number(most)) > 0 {
		return most
	}
	return int(n.Int64())
}

// choose returns the lower or the upper one of two ends.
func (x *exact) choose(low, high int) *big.Int {
	if x.upper {
		return number(high)
	}
	return number(low)
}

func (x *exact) message(name string) *big.Int {
	if x.known[name] == nil {
		i, _ := schema.Find(x.d, name)
		m := x.d.Messages[i]
		x.known[name] = x.position(m, len(m.Fields))
	}
	return x.known[name]
}

func (x *exact) position(m api.Message, field int) *big.Int {
	sum := number(0)
	for _, f := range m.Fields[:field] {
		if f.Kind != api.KindPad {
			sum.Add(sum, x.field(m, f))
			continue
		}
		// The remainder of what is below zero is what is missing.
		sum.Add(sum, new(big.Int).Mod(new(big.Int).Neg(sum), number(f.Bits)))
	}
	return sum
}

// size returns an end of the interval of a size.
func (x *exact) size(m api.Message, s api.Size) *big.Int {
	sum := number(s.Base)
	for _, t := range s.Terms {
		i, _ := schema.Field(m, t.Field)
		low, high := m.Fields[i].Low, m.Fields[i].High
		if m.Fields[i].Kind == api.KindConst {
			high = low
		}
		if t.Factor < 0 {
			low, high = high, low
		}
		sum.Add(sum, product(number(t.Factor), x.choose(low, high)))
	}
	return sum
}

func (x *exact) field(m api.Message, f api.Field) *big.Int {
	switch f.Kind {
	case api.KindVarint:
		high := octets(f.High)
		if f.Loose {
			high = 5
		}
		return x.choose(8*octets(f.Low), 8*high)
	case api.KindBytes, api.KindView:
		return product(number(8), x.size(m, f.Size))
	case api.KindUntil:
		return x.choose(8, 8+8*f.High)
	case api.KindHeaders:
		return x.choose(16, 8*f.High)
	case api.KindList:
		return product(x.size(m, f.Size), x.message(f.Of))
	case api.KindMessage:
		return x.message(f.Of)
	case api.KindChoice:
		found := x.message(f.Cases[0].Of)
		for _, c := range f.Cases[1:] {
			if other := x.message(c.Of); (other.Cmp(found) > 0) == x.upper {
				found = other
			}
		}
		return found
	case api.KindPad:
		return x.choose(0, f.Bits-1)
	case api.KindCheck:
		return number([]int{0, 16, 16, 32}[f.Check])
	}
	return number(f.Bits)
}

// octets returns the number of bytes of an integer of variable length.
func octets(n int) int {
	count := 1
	for n >= 128 {
		n /= 128
		count++
	}
	return count
}

// TestRandomDefinitions compares all fields and messages with ends that are computed without a cap.
func TestRandomDefinitions(t *testing.T) {
	random := rand.New(rand.NewSource(81))
	seen, full, open := map[api.Kind]int{}, 0, 0
	for range 80 {
		d := randomDefinition(random)
		if !schema.Valid(d) {
			t.Fatalf("%+v is not valid", d)
		}
		low := exact{d, false, map[string]*big.Int{}}
		high := exact{d, true, map[string]*big.Int{}}
		for i, m := range d.Messages {
			var fields []field
			for j, f := range m.Fields {
				at := between(capped(low.position(m, j)), capped(high.position(m, j)))
				fields = append(fields, field{at, between(capped(low.field(m, f)), capped(high.field(m, f)))})
				seen[f.Kind]++
			}
			whole := between(capped(low.message(m.Name)), capped(high.message(m.Name)))
			spans(t, d, i, whole, fields...)
			if t.Failed() {
				t.Fatalf("%+v", d)
			}
			if whole.High == most {
				full++
			} else if whole.Low < whole.High {
				open++
			}
		}
	}
	for _, kind := range kinds {
		if seen[kind] < 100 {
			t.Errorf("only %d fields of kind %d", seen[kind], kind)
		}
	}
	if full < 100 || open < 100 {
		t.Errorf("%d messages with the greatest number of bits, %d below it", full, open)
	}
}
