package schema_test

import (
	"math"
	"strings"
	"testing"

	"phrasebook/api"
	"phrasebook/schema"
)

// tested returns a definition in whose message t (the seventh one) some fields stand behind the
// numbers n (1 to 9), c (5) and v (0 to 300) and the bytes b, and ahead of the numbers y and z.
// The messages before it are a and p, which are strict, and the others, which are not.
func tested(fields ...api.Field) api.Definition {
	first := []api.Field{unsigned("n", 8, 1, 9), constant("c", 8, 5), loose(varint("v", 0, 300)), octets("b", 2)}
	last := []api.Field{unsigned("y", 8, 0, 9), varint("z", 0, 9)}
	return defined("t",
		message("a", unsigned("i", 8, 0, 255)),
		message("p", nested("j", "a"), pad("k", 8)),
		message("lv", loose(varint("i", 0, 9))),
		message("lh", api.Field{Name: "i", Kind: api.KindHeaders, High: 9, Loose: true}),
		message("ll", unsigned("i", 8, 0, 9), list("j", "lv", 0, term(1, "i"))),
		message("lc", unsigned("i", 8, 0, 9), choice("j", "i", api.Case{Low: 0, High: 4, Of: "a"}, api.Case{Low: 5, High: 9, Of: "lh"})),
		message("t", append(append(first, fields...), last...)...),
		message("behind", unsigned("q", 8, 0, 255)))
}

const testedMessage, testedField = 6, 4

// flawed checks the first flaw of a definition (code 0: none).
func flawed(t *testing.T, d api.Definition, message, field int, code api.FlawCode) {
	t.Helper()
	want := api.Flaw{Message: message, Field: field, Code: code}
	if code == 0 {
		want = api.Flaw{}
	}
	f, found := schema.Check(d)
	if f != want || found != (code != 0) || schema.Valid(d) == found {
		t.Errorf("%v, %t, not %v, of %+v", f, found, want, d)
	}
}

// with checks the first flaw of a field in the message t.
func with(t *testing.T, f api.Field, code api.FlawCode) {
	t.Helper()
	flawed(t, tested(f), testedMessage, testedField, code)
}

// TestExamples looks at those of the chapter.
func TestExamples(t *testing.T) {
	n, b := unsigned("n", 8, 0, 255), octets("b", 0, term(1, "n"))
	wrong := b
	d := defined("m", message("m", n, b))
	flawed(t, d, 0, 0, 0)
	flawed(t, defined("x", message("m", n, b)), -1, -1, api.FlawStart)
	flawed(t, defined("m", message("m", unsigned("n", 8, 0, 256), b)), 0, 0, api.FlawRange)
	flawed(t, defined("m", message("m", n, octets("b", -1, term(1, "n")))), 0, 1, api.FlawSize)
	flawed(t, defined("m", message("m", n, octets("n", 0, term(1, "n")))), 0, 1, api.FlawTwice)
	wrong.Bits = 8
	flawed(t, defined("m", message("m", n, wrong)), 0, 1, api.FlawUnused)
	flawed(t, defined("m", message("m", n, b, list("l", "m", 0))), 0, 2, api.FlawRefer)
}

func TestValidDefinitions(t *testing.T) {
	flawed(t, tested(), 0, 0, 0)
	flawed(t, defined("m", message("m", unsigned("m", 1, 0, 0))), 0, 0, 0)
	// Names of the definition, of messages and of fields have nothing to do with each other.
	flawed(t, api.Definition{Name: "m", Messages: []api.Message{message("n", unsigned("m", 1, 0, 1)), message("m", nested("n", "n"))}, Start: "n"}, 0, 0, 0)
}

func TestUint(t *testing.T) {
	for _, bits := range []int{math.MinInt, -32, -1, 0, 33, 34, 64, 65, 1 << 20, math.MaxInt} {
		with(t, unsigned("x", bits, 0, 0), api.FlawBits)
		with(t, unsigned("x", bits, 5, 1), api.FlawBits)
		with(t, little(unsigned("x", bits, 0, 0)), api.FlawBits)
	}
	for bits := 1; bits <= 32; bits++ {
		most := 1<<bits - 1
		for _, r := range [][2]int{{0, 0}, {0, 1}, {0, most}, {1, most}, {most, most}, {most - 1, most}} {
			with(t, unsigned("x", bits, r[0], r[1]), 0)
		}
		for _, r := range [][2]int{{-1, 0}, {-1, -1}, {1, 0}, {most, most - 1}, {0, -1}, {0, most + 1}, {most + 1, most + 1}, {most + 1, most}, {math.MinInt, 0}, {0, math.MaxInt}, {math.MinInt, math.MaxInt}} {
			with(t, unsigned("x", bits, r[0], r[1]), api.FlawRange)
		}
		if bits == 16 || bits == 24 || bits == 32 {
			with(t, little(unsigned("x", bits, 0, most)), 0)
			with(t, little(unsigned("x", bits, 0, most+1)), api.FlawRange)
		} else {
			with(t, little(unsigned("x", bits, 0, 1)), api.FlawBits)
			with(t, little(unsigned("x", bits, 1, 0)), api.FlawBits)
		}
	}
}

func TestConst(t *testing.T) {
	for _, bits := range []int{math.MinInt, -1, 0, 33, 64, math.MaxInt} {
		with(t, constant("x", bits, 0), api.FlawBits)
		with(t, constant("x", bits, -1), api.FlawBits)
		with(t, little(constant("x", bits, 0)), api.FlawBits)
	}
	for bits := 1; bits <= 32; bits++ {
		most := 1<<bits - 1
		for _, value := range []int{0, 1, most} {
			with(t, constant("x", bits, value), 0)
		}
		for _, value := range []int{-1, most + 1, math.MinInt, math.MaxInt} {
			with(t, constant("x", bits, value), api.FlawRange)
		}
		if bits == 16 || bits == 24 || bits == 32 {
			with(t, little(constant("x", bits, most)), 0)
			with(t, little(constant("x", bits, most+1)), api.FlawRange)
		} else {
			with(t, little(constant("x", bits, 1)), api.FlawBits)
			with(t, little(constant("x", bits, -1)), api.FlawBits)
		}
	}
}

func TestVarint(t *testing.T) {
	const most = api.MaxVarint - 1
	for _, r := range [][2]int{{0, 0}, {0, most}, {most, most}, {3, 9}, {9, 9}} {
		with(t, varint("x", r[0], r[1]), 0)
		with(t, loose(varint("x", r[0], r[1])), 0)
	}
	for _, r := range [][2]int{{-1, 0}, {-1, -1}, {1, 0}, {0, -1}, {0, most + 1}, {most + 1, most + 1}, {most, most - 1}, {math.MinInt, 5}, {5, math.MaxInt}} {
		with(t, varint("x", r[0], r[1]), api.FlawRange)
		with(t, loose(varint("x", r[0], r[1])), api.FlawRange)
	}
}

func TestUntil(t *testing.T) {
	until := func(low, high int, code api.FlawCode) {
		t.Helper()
		with(t, api.Field{Name: "x", Kind: api.KindUntil, Low: low, High: high}, code)
	}
	for _, low := range []int{0, 1, 10, 254, 255} {
		for _, high := range []int{0, 1, 9, api.MaxLength - 1, api.MaxLength} {
			until(low, high, 0)
		}
		for _, high := range []int{-1, api.MaxLength + 1, math.MinInt, math.MaxInt} {
			until(low, high, api.FlawRange)
		}
	}
	for _, low := range []int{-1, 256, math.MinInt, math.MaxInt} {
		for _, high := range []int{0, 300, api.MaxLength, math.MaxInt} {
			until(low, high, api.FlawRange)
		}
	}
}

func TestHeaders(t *testing.T) {
	for _, looseOne := range []bool{false, true} {
		for _, high := range []int{2, 3, 80, api.MaxLength - 1, api.MaxLength} {
			with(t, api.Field{Name: "x", Kind: api.KindHeaders, High: high, Loose: looseOne}, 0)
		}
		for _, high := range []int{math.MinInt, -2, 0, 1, api.MaxLength + 1, math.MaxInt} {
			with(t, api.Field{Name: "x", Kind: api.KindHeaders, High: high, Loose: looseOne}, api.FlawRange)
		}
	}
}

// sizes are sizes by the flaw that they have in the message t.
func sizes() map[api.FlawCode][]api.Size {
	const most = api.MaxLength
	return map[api.FlawCode][]api.Size{
		0: {
			sized(0), {Terms: []api.Term{}}, sized(1), sized(most - 1), sized(most),
			sized(0, term(1, "n")), sized(-1, term(1, "n")), sized(most-9, term(1, "n")), sized(9, term(-1, "n")), sized(most, term(-1, "n")), sized(-3, term(3, "n")), sized(27, term(-3, "n")),
			// c is always 5.
			sized(0, term(1, "c")), sized(-5, term(1, "c")), sized(most-5, term(1, "c")), sized(5, term(-1, "c")), sized(-10, term(2, "c")), sized(4, term(1, "n"), term(-1, "c")),
			sized(300, term(-1, "v")), sized(most-300, term(1, "v")), sized(299, term(1, "n"), term(-1, "v")), sized(-6, term(1, "v"), term(1, "n"), term(1, "c")),
		},
		api.FlawSize: {
			// These are not valid, whatever their names are.
			sized(most + 1), sized(-most - 1), sized(math.MinInt), sized(math.MaxInt), sized(0, term(0, "n")), sized(0, term(most+1, "n")), sized(0, term(1, "")), sized(0, term(1, "1")), sized(0, term(1, "n"), term(1, "n")), sized(most+1, term(-1, "n")),
			sized(0, term(1, "n"), term(1, "c"), term(1, "v"), term(1, "n1"), term(1, "n2")),
			sized(most+1, term(1, "unknown")), sized(0, term(0, "unknown")), sized(0, term(1, "unknown"), term(1, "n"), term(0, "c")),
			// Their intervals are not within 0 to MaxLength.
			sized(-1), sized(-most), sized(-2, term(1, "n")), sized(most-8, term(1, "n")), sized(8, term(-1, "n")), sized(most, term(1, "n")), sized(-2, term(2, "c"), term(-1, "n")),
			sized(-6, term(1, "c")), sized(most-4, term(1, "c")), sized(4, term(-1, "c")), sized(0, term(-1, "c")), sized(3, term(1, "n"), term(-1, "c")),
			sized(299, term(-1, "v")), sized(most-299, term(1, "v")), sized(298, term(1, "n"), term(-1, "v")), sized(-7, term(1, "v"), term(1, "n"), term(1, "c")),
			sized(0, term(most, "n")), sized(0, term(-most, "v")), sized(most, term(most, "n"), term(-most, "v")),
		},
		api.FlawRefer: {
			sized(0, term(1, "x")), sized(0, term(1, "y")), sized(0, term(1, "z")), sized(0, term(1, "b")), sized(0, term(1, "i")), sized(0, term(1, "q")), sized(0, term(1, "t")), sized(0, term(1, "a")), sized(0, term(1, "d")), sized(0, term(1, "N")), sized(0, term(1, "nn")),
			sized(0, term(1, "n"), term(1, "y")), sized(0, term(1, "y"), term(1, "n")), sized(0, term(1, "n"), term(1, "c"), term(1, "v"), term(1, "b")),
			// Their intervals would not be right either.
			sized(-1, term(1, "y")), sized(most, term(1, "n"), term(1, "b")), sized(-most, term(-1, "x")),
		},
	}
}

func TestSizes(t *testing.T) {
	for code, l := range sizes() {
		for _, s := range l {
			with(t, api.Field{Name: "x", Kind: api.KindBytes, Size: s}, code)
			with(t, api.Field{Name: "x", Kind: api.KindList, Of: "lc", Size: s}, code)
			with(t, api.Field{Name: "x", Kind: api.KindView, Of: "p", Size: s}, code)
			// What else is wrong with lists and views comes before the size.
			with(t, api.Field{Name: "x", Kind: api.KindList, Of: "t", Size: s}, api.FlawRefer)
			with(t, api.Field{Name: "x", Kind: api.KindView, Of: "lv", Size: s}, api.FlawRefer)
			with(t, api.Field{Name: "x", Kind: api.KindView, Of: "p", Size: s, Key: -1}, api.FlawRange)
		}
	}
}

// TestSizesOfOtherNumbers looks at numbers that only one field of the message may use.
func TestSizesOfOtherNumbers(t *testing.T) {
	m := message("m", octets("b", 0), unsigned("n", 32, 0, 1<<32-1), octets("x", 0))
	for _, s := range []api.Size{sized(0, term(1, "n")), sized(api.MaxLength, term(-1, "n")), sized(0, term(api.MaxLength, "n"))} {
		m.Fields[2].Size = s
		flawed(t, defined("m", m), 0, 2, api.FlawSize)
	}
	// The first field has no number before it.
	m.Fields[0].Size = sized(0, term(1, "n"))
	flawed(t, defined("m", m), 0, 0, api.FlawRefer)
	// Numbers of messages before this one, or inside of it, do not count.
	flawed(t, defined("m", message("a", unsigned("n", 1, 0, 1)), message("m", octets("x", 0, term(1, "n")))), 1, 0, api.FlawRefer)
	flawed(t, defined("m", message("a", unsigned("n", 1, 0, 1)), message("m", nested("a", "a"), octets("x", 0, term(1, "n")))), 1, 1, api.FlawRefer)
	flawed(t, defined("m", message("a", unsigned("n", 1, 0, 1)), message("m", nested("n", "a"), octets("x", 0, term(1, "n")))), 1, 1, api.FlawRefer)
	flawed(t, defined("m", message("a", unsigned("n", 8, 0, 255)), message("m", unsigned("n", 1, 0, 1), octets("x", -1, term(1, "n")))), 1, 1, api.FlawSize)
	flawed(t, defined("m", message("a", unsigned("n", 8, 9, 255)), message("m", varint("n", 1, 2), octets("x", api.MaxLength-2, term(1, "n")))), 1, 1, 0)
}

// otherMessages are names that are not those of messages before the message t.
var otherMessages = []string{"", "t", "behind", "x", "n", "i", "d", "A", "aa", "1", " ", "a ", strings.Repeat("a", 33)}

func TestMessagesReferredTo(t *testing.T) {
	for _, of := range []string{"a", "p", "lv", "lh", "ll", "lc"} {
		with(t, nested("x", of), 0)
		with(t, list("x", of, 3), 0)
		with(t, choice("x", "n", api.Case{Low: 1, High: 1, Of: of}), 0)
	}
	for _, of := range otherMessages {
		with(t, nested("x", of), api.FlawRefer)
		with(t, list("x", of, 3), api.FlawRefer)
		with(t, list("x", of, -1), api.FlawRefer)
		with(t, view("x", of, 7, 3), api.FlawRefer)
		with(t, choice("x", "n", api.Case{Low: 1, High: 1, Of: of}), api.FlawRefer)
		with(t, choice("x", "n", api.Case{Low: 1, High: 1, Of: "a"}, api.Case{Low: 2, High: 2, Of: of}), api.FlawRefer)
	}
}

func TestView(t *testing.T) {
	for _, key := range []int{0, 1, 1 << 31, 1<<32 - 1} {
		with(t, view("x", "a", key, 1), 0)
		with(t, view("x", "p", key, 0, term(1, "n")), 0)
		for _, of := range []string{"lv", "lh", "ll", "lc"} {
			with(t, view("x", of, key, 1), api.FlawRefer)
			with(t, view("x", of, key, -1), api.FlawRefer)
		}
	}
	for _, key := range []int{-1, 1 << 32, math.MinInt, math.MaxInt} {
		with(t, view("x", "a", key, 1), api.FlawRange)
		with(t, view("x", "lv", key, 1), api.FlawRange)
		with(t, view("x", "none", key, -1), api.FlawRange)
	}
	// A view is strict by the messages in it.
	d := tested(view("x", "a", 1, 1))
	d.Messages[7] = message("behind", view("q", "t", 0, 1))
	flawed(t, d, 7, 0, api.FlawRefer)
	d = defined("w", message("a", unsigned("n", 8, 0, 1)), message("v", view("x", "a", 0, 1)), message("w", view("x", "v", 0, 1)))
	flawed(t, d, 0, 0, 0)
}

func TestTag(t *testing.T) {
	one := api.Case{Low: 5, High: 5, Of: "a"}
	for _, tag := range []string{"n", "c", "v"} {
		with(t, choice("x", tag, one), 0)
	}
	for _, tag := range []string{"", "b", "x", "y", "z", "i", "q", "N", "nn", "t", "a"} {
		with(t, choice("x", tag, one), api.FlawRefer)
		// The tag comes before the cases.
		with(t, choice("x", tag), api.FlawRefer)
		with(t, choice("x", tag, api.Case{Low: 2, High: 1}), api.FlawRefer)
	}
	// A number is the tag of one choice only, but may be used otherwise.
	flawed(t, tested(choice("x", "n", one), choice("w", "n", one)), testedMessage, testedField+1, api.FlawRefer)
	flawed(t, tested(choice("x", "n", one), choice("w", "c", one), choice("u", "n", one)), testedMessage, testedField+2, api.FlawRefer)
	flawed(t, tested(choice("x", "n", one), octets("w", 0, term(1, "n")), choice("u", "n")), testedMessage, testedField+2, api.FlawRefer)
	flawed(t, tested(choice("x", "n", one), choice("w", "c", one), choice("u", "v", one)), 0, 0, 0)
	flawed(t, tested(octets("w", 0, term(1, "n")), checksum("k", 1, "n"), choice("x", "n", one), octets("u", 0, term(1, "n")), list("l", "a", 0, term(1, "n"))), 0, 0, 0)
	// That it is the tag in another message, or that a choice behind it has it, does not matter.
	tagged := message("m", unsigned("n", 8, 0, 9), choice("x", "n", one))
	other := message("o", unsigned("n", 8, 0, 9), choice("x", "n", one))
	flawed(t, defined("m", message("a", pad("p", 8)), tagged, other), 0, 0, 0)
	flawed(t, tested(choice("x", "n", api.Case{Low: 5, High: 5, Of: "none"}), choice("w", "n", one)), testedMessage, testedField, api.FlawRefer)
}

func TestCases(t *testing.T) {
	cases := func(code api.FlawCode, l ...api.Case) {
		t.Helper()
		with(t, choice("x", "n", l...), code)
	}
	a := func(low, high int) api.Case { return api.Case{Low: low, High: high, Of: "a"} }
	cases(0, a(1, 9))
	cases(0, a(1, 1))
	cases(0, a(9, 9))
	cases(0, a(1, 3), a(4, 9))
	cases(0, a(1, 1), a(2, 2), a(3, 3), a(5, 7), a(9, 9))
	cases(0, api.Case{Low: 2, High: 3, Of: "a"}, api.Case{Low: 5, High: 6, Of: "lv"}, api.Case{Low: 7, High: 7, Of: "a"})
	for _, wrong := range []api.Case{a(0, 3), a(-1, 3), a(1, 10), a(10, 10), a(0, 0), a(3, 2), a(9, 1), a(10, 9), a(1, 0), a(math.MinInt, math.MaxInt), a(1, math.MaxInt), a(math.MaxInt, math.MaxInt), a(math.MinInt, 5)} {
		cases(api.FlawRange, wrong)
		wrong.Of = "none"
		cases(api.FlawRange, wrong)
	}
	for _, wrong := range []api.Case{a(3, 4), a(1, 1), a(2, 2), a(1, 9), a(2, 9), a(3, 3), a(5, 4), a(4, 10), a(0, 3), a(0, 9)} {
		cases(api.FlawRange, a(2, 3), wrong)
		cases(api.FlawRange, a(1, 1), a(2, 3), wrong)
		cases(api.FlawRange, a(2, 3), wrong, a(9, 9))
	}
	cases(api.FlawRange, a(1, 4), a(6, 7), a(5, 5))
	// Each case is examined before the next one.
	none := api.Case{Low: 2, High: 3, Of: "none"}
	cases(api.FlawRefer, none, a(3, 3))
	cases(api.FlawRange, a(2, 2), none)
	cases(api.FlawRefer, a(1, 1), none, a(10, 10))
	cases(api.FlawRange, a(0, 0), none)
	// The range is that of the tag.
	with(t, choice("x", "c", a(5, 5)), 0)
	with(t, choice("x", "c", a(4, 5)), api.FlawRange)
	with(t, choice("x", "c", a(5, 6)), api.FlawRange)
	with(t, choice("x", "c", a(0, 0)), api.FlawRange)
	with(t, choice("x", "v", a(0, 300)), 0)
	with(t, choice("x", "v", a(0, 301)), api.FlawRange)
	with(t, choice("x", "v", a(-1, 300)), api.FlawRange)
	greatest := defined("m", message("a", pad("p", 8)), message("m", varint("n", 0, api.MaxVarint-1), choice("x", "n", a(api.MaxVarint-1, api.MaxVarint-1))))
	flawed(t, greatest, 0, 0, 0)
	greatest.Messages[1].Fields[1].Cases = append(greatest.Messages[1].Fields[1].Cases, a(api.MaxVarint, api.MaxVarint))
	flawed(t, greatest, 1, 1, api.FlawRange)
}

func TestNumberOfCases(t *testing.T) {
	for n, code := range map[int]api.FlawCode{0: api.FlawCount, 1: 0, 2: 0, 39: 0, 40: 0, 41: api.FlawCount, 42: api.FlawCount, 80: api.FlawCount} {
		var l []api.Case
		for i := range n {
			l = append(l, api.Case{Low: i, High: i, Of: "a"})
		}
		with(t, choice("x", "v", l...), code)
		if code != 0 && n > 0 {
			// The number comes before what is wrong with a case.
			l[0].High = -1
			with(t, choice("x", "v", l...), code)
			l[0] = api.Case{Low: 0, High: 0, Of: "none"}
			with(t, choice("x", "v", l...), code)
		}
	}
	with(t, api.Field{Name: "x", Kind: api.KindChoice, Tag: "n", Cases: []api.Case{}}, api.FlawCount)
	with(t, choice("x", "v", make([]api.Case, 1000000)...), api.FlawCount)
}

func TestPad(t *testing.T) {
	right := map[int]bool{2: true, 4: true}
	for bits := 8; bits <= 512; bits += 8 {
		right[bits] = true
	}
	for bits := -1100; bits <= 1100; bits++ {
		if right[bits] {
			with(t, pad("x", bits), 0)
		} else {
			with(t, pad("x", bits), api.FlawBits)
		}
	}
	for _, bits := range []int{math.MinInt, math.MaxInt, 1 << 62, -1 << 62, 1<<32 + 8} {
		with(t, pad("x", bits), api.FlawBits)
	}
}

func TestChecksum(t *testing.T) {
	for _, number := range []int{1, 2, 3} {
		for _, from := range []string{"n", "c", "v", "b"} {
			with(t, checksum("x", number, from), 0)
		}
		for _, from := range []string{"", "x", "y", "z", "i", "t", "a", "d", "N"} {
			with(t, checksum("x", number, from), api.FlawRefer)
		}
	}
	for _, number := range []int{math.MinInt, -1, 0, 4, 5, 100, math.MaxInt} {
		with(t, checksum("x", number, "n"), api.FlawRange)
		with(t, checksum("x", number, "none"), api.FlawRange)
	}
	// A checksum may be from a field of any kind.
	l := []api.Field{pad("f0", 8), checksum("f1", 1, "n"), nested("f2", "a"), list("f3", "a", 1), view("f4", "a", 0, 1), choice("f5", "n", api.Case{Low: 1, High: 1, Of: "a"}), {Name: "f6", Kind: api.KindUntil}, {Name: "f7", Kind: api.KindHeaders, High: 2}}
	for _, f := range l {
		flawed(t, tested(append(l, checksum("x", 1, f.Name))...), 0, 0, 0)
	}
	flawed(t, defined("m", message("m", checksum("x", 1, "x"))), 0, 0, api.FlawRefer)
}

func TestKinds(t *testing.T) {
	for _, kind := range others {
		with(t, api.Field{Name: "x", Kind: kind}, api.FlawKind)
		with(t, api.Field{Name: "x", Kind: kind, Bits: 8, High: 255}, api.FlawKind)
		with(t, api.Field{Name: "x", Kind: kind, Of: "a"}, api.FlawKind)
	}
}
