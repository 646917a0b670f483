package schema_test

import (
	"maps"
	"math"
	"testing"

	"phrasebook/api"
	"phrasebook/schema"
)

// kinds are all kinds that exist.
var kinds = []api.Kind{
	api.KindUint, api.KindConst, api.KindVarint, api.KindBytes, api.KindUntil, api.KindHeaders,
	api.KindList, api.KindMessage, api.KindChoice, api.KindPad, api.KindCheck, api.KindView,
}

// others are kinds that do not exist.
var others = []api.Kind{0, -1, 13, 14, 100, math.MaxInt, math.MinInt}

func unsigned(name string, bits, low, high int) api.Field {
	return api.Field{Name: name, Kind: api.KindUint, Bits: bits, Low: low, High: high}
}

func constant(name string, bits, value int) api.Field {
	return api.Field{Name: name, Kind: api.KindConst, Bits: bits, Low: value}
}

func varint(name string, low, high int) api.Field {
	return api.Field{Name: name, Kind: api.KindVarint, Low: low, High: high}
}

func octets(name string, base int, terms ...api.Term) api.Field {
	return api.Field{Name: name, Kind: api.KindBytes, Size: sized(base, terms...)}
}

func nested(name, of string) api.Field {
	return api.Field{Name: name, Kind: api.KindMessage, Of: of}
}

func list(name, of string, base int, terms ...api.Term) api.Field {
	return api.Field{Name: name, Kind: api.KindList, Of: of, Size: sized(base, terms...)}
}

func view(name, of string, key int, base int, terms ...api.Term) api.Field {
	return api.Field{Name: name, Kind: api.KindView, Of: of, Key: key, Size: sized(base, terms...)}
}

func choice(name, tag string, cases ...api.Case) api.Field {
	return api.Field{Name: name, Kind: api.KindChoice, Tag: tag, Cases: cases}
}

func pad(name string, bits int) api.Field {
	return api.Field{Name: name, Kind: api.KindPad, Bits: bits}
}

func checksum(name string, number int, from string) api.Field {
	return api.Field{Name: name, Kind: api.KindCheck, Check: number, From: from}
}

func loose(f api.Field) api.Field {
	f.Loose = true
	return f
}

func little(f api.Field) api.Field {
	f.Little = true
	return f
}

func sized(base int, terms ...api.Term) api.Size { return api.Size{Base: base, Terms: terms} }

func term(factor int, field string) api.Term { return api.Term{Field: field, Factor: factor} }

func message(name string, fields ...api.Field) api.Message {
	return api.Message{Name: name, Fields: fields}
}

func defined(start string, messages ...api.Message) api.Definition {
	return api.Definition{Name: "d", Messages: messages, Start: start}
}

func TestFind(t *testing.T) {
	d := defined("m", message("a"), message("m"), message("A"), message("a"), message(""), message("m"), message("-"), message("last"))
	for name, want := range map[string]int{"a": 0, "m": 1, "A": 2, "": 4, "-": 6, "last": 7} {
		if i, is := schema.Find(d, name); i != want || !is {
			t.Errorf("%q: %d, %t, not %d", name, i, is, want)
		}
	}
	for _, name := range []string{"b", "aa", "M", " ", "d", "l", "las", "lastt"} {
		if i, is := schema.Find(d, name); i != 0 || is {
			t.Errorf("%q: %d, %t", name, i, is)
		}
	}
	for _, name := range []string{"", "d"} {
		if i, is := schema.Find(api.Definition{Name: "d", Start: "d"}, name); i != 0 || is {
			t.Errorf("%q of no messages: %d, %t", name, i, is)
		}
	}
}

func TestField(t *testing.T) {
	m := message("m", pad("n", 8), varint("v", 0, 1), api.Field{Name: "n", Kind: 77}, nested("N", "x"), api.Field{}, checksum("last", 1, "from"), varint("v", 0, 1))
	for name, want := range map[string]int{"n": 0, "v": 1, "N": 3, "": 4, "last": 5} {
		if i, is := schema.Field(m, name); i != want || !is {
			t.Errorf("%q: %d, %t, not %d", name, i, is, want)
		}
	}
	for _, name := range []string{"m", "x", "from", "V", "vv", "las"} {
		if i, is := schema.Field(m, name); i != 0 || is {
			t.Errorf("%q: %d, %t", name, i, is)
		}
	}
	if i, is := schema.Field(message("m"), "m"); i != 0 || is {
		t.Errorf("of no fields: %d, %t", i, is)
	}
}

func TestNumberAndHasValue(t *testing.T) {
	numbers := map[api.Kind]bool{api.KindUint: true, api.KindConst: true, api.KindVarint: true}
	valueless := map[api.Kind]bool{api.KindConst: true, api.KindPad: true, api.KindCheck: true}
	for _, kind := range append(others, kinds...) {
		// Nothing but the kind matters.
		for _, f := range []api.Field{{}, unsigned("n", 8, 0, 9), constant("", -1, 9), varint("v", 9, 0), choice("c", "n"), checksum("k", 1, "n"), pad("p", 8)} {
			f.Kind = kind
			if is := schema.Number(f); is != numbers[kind] {
				t.Errorf("%+v is a number: %t", f, is)
			}
			if is := schema.HasValue(f); is == valueless[kind] {
				t.Errorf("%+v has a value: %t", f, is)
			}
		}
	}
}

func TestRange(t *testing.T) {
	for _, x := range []struct{ low, high int }{{0, 0}, {0, 255}, {3, 7}, {7, 7}, {0, api.MaxVarint - 1}, {9, 2}, {-5, -1}, {math.MinInt, math.MaxInt}, {math.MaxInt, math.MinInt}} {
		for _, kind := range append(others, kinds...) {
			want, code := api.Range{}, api.ErrArg
			switch kind {
			case api.KindUint, api.KindVarint:
				want, code = api.Range{Low: x.low, High: x.high}, api.OK
			case api.KindConst:
				want, code = api.Range{Low: x.low, High: x.low}, api.OK
			}
			f := api.Field{Name: "f", Kind: kind, Low: x.low, High: x.high}
			for _, f.Bits = range []int{0, 3, 99} {
				if r, e := schema.Range(f); r != want || e != code {
					t.Errorf("%+v: %v, code %d, not %v, code %d", f, r, e, want, code)
				}
			}
		}
	}
}

func TestRanges(t *testing.T) {
	type ranges = map[string]api.Range
	for _, x := range []struct {
		m    api.Message
		want ranges
	}{
		{message("m", unsigned("n", 8, 0, 255), octets("b", 0, term(1, "n"))), ranges{"n": {Low: 0, High: 255}}},
		{message("m", unsigned("u", 8, 1, 9), constant("c", 8, 5), varint("v", 2, 300)), ranges{"u": {Low: 1, High: 9}, "c": {Low: 5, High: 5}, "v": {Low: 2, High: 300}}},
		{message("m", constant("c", 8, 5), api.Field{Name: "k", Kind: api.KindConst, Low: 6, High: 99}), ranges{"c": {Low: 5, High: 5}, "k": {Low: 6, High: 6}}},
		// Of several numbers with a name, the last one counts; of other fields, none.
		{message("m", unsigned("n", 8, 0, 1), varint("n", 2, 3), unsigned("o", 8, 4, 5), constant("n", 8, 6)), ranges{"n": {Low: 6, High: 6}, "o": {Low: 4, High: 5}}},
		{message("m", unsigned("n", 8, 0, 1), octets("n", 3), api.Field{Name: "n", Kind: api.KindUntil, Low: 7, High: 9}), ranges{"n": {Low: 0, High: 1}}},
		// Ranges are as they stand, allowed or not.
		{message("", unsigned("", 99, 5, -5), varint("-", -7, math.MaxInt)), ranges{"": {Low: 5, High: -5}, "-": {Low: -7, High: math.MaxInt}}},
		{message("m", api.Field{Name: "x"}, api.Field{Name: "y", Kind: 13, High: 1}, pad("p", 8), checksum("k", 1, "p"), nested("o", "a"), list("l", "a", 1), view("w", "a", 1, 1), choice("c", "n", api.Case{High: 1, Of: "a"}), api.Field{Name: "h", Kind: api.KindHeaders, High: 9}), nil},
		{message("m"), nil},
	} {
		r := schema.Ranges(x.m)
		if !maps.Equal(r, x.want) {
			t.Errorf("%+v: %v, not %v", x.m, r, x.want)
		}
		if r != nil {
			clear(r)
		}
		if again := schema.Ranges(x.m); !maps.Equal(again, x.want) {
			t.Errorf("%+v: %v after a change of the first result", x.m, again)
		}
	}
}

func TestCase(t *testing.T) {
	f := choice("c", "t", api.Case{Low: 1, High: 3, Of: "a"}, api.Case{Low: 5, High: 5, Of: "b"}, api.Case{Low: 9, High: api.MaxVarint - 1, Of: "a"})
	for tag, want := range map[int]int{1: 0, 2: 0, 3: 0, 5: 1, 9: 2, 10: 2, api.MaxVarint - 1: 2} {
		if i, is := schema.Case(f, tag); i != want || !is {
			t.Errorf("%d: %d, %t, not %d", tag, i, is, want)
		}
	}
	for _, tag := range []int{math.MinInt, -1, 0, 4, 6, 8, api.MaxVarint, math.MaxInt} {
		if i, is := schema.Case(f, tag); i != 0 || is {
			t.Errorf("%d: %d, %t", tag, i, is)
		}
	}
}

func TestCaseOfOthers(t *testing.T) {
	// The first case that contains the tag counts, in whatever order they stand, and the kind does not matter.
	f := api.Field{Cases: []api.Case{{Low: 9, High: 5}, {Low: 6, High: 7}, {Low: 0, High: 20}, {Low: 6, High: 6}, {Low: -9, High: -3}}}
	for _, f.Kind = range append(others, kinds...) {
		for tag, want := range map[int]int{5: 2, 6: 1, 7: 1, 8: 2, 9: 2, 0: 2, 20: 2, -3: 4, -9: 4} {
			if i, is := schema.Case(f, tag); i != want || !is {
				t.Errorf("%d of kind %d: %d, %t, not %d", tag, f.Kind, i, is, want)
			}
		}
		for _, tag := range []int{-10, -2, -1, 21} {
			if i, is := schema.Case(f, tag); i != 0 || is {
				t.Errorf("%d of kind %d: %d, %t", tag, f.Kind, i, is)
			}
		}
	}
	if i, is := schema.Case(choice("c", "t"), 0); i != 0 || is {
		t.Errorf("of no cases: %d, %t", i, is)
	}
}
