package schema_test

import (
	"math"
	"slices"
	"testing"

	"phrasebook/api"
	"phrasebook/schema"
)

func cases(of ...string) []api.Case {
	var l []api.Case
	for i, name := range of {
		l = append(l, api.Case{Low: i, High: i, Of: name})
	}
	return l
}

func TestRefers(t *testing.T) {
	for _, x := range []struct {
		m    api.Message
		want []string
	}{
		{message("m"), nil},
		{message("m", unsigned("n", 8, 0, 255), octets("b", 0, term(1, "n"))), nil},
		{message("m", nested("x", "a")), []string{"a"}},
		{message("m", list("x", "a", 1)), []string{"a"}},
		{message("m", view("x", "a", 1, 1)), []string{"a"}},
		{message("m", choice("x", "n", cases("a")...)), []string{"a"}},
		{message("m", choice("x", "n", cases("c", "a", "b")...)), []string{"c", "a", "b"}},
		{message("m", nested("x", "b"), nested("y", "a"), nested("z", "c")), []string{"b", "a", "c"}},
		// Each of them is yielded once, where it occurs first.
		{message("m", nested("x", "a"), list("y", "a", 1), view("z", "a", 0, 1), choice("w", "n", cases("a", "a")...)), []string{"a"}},
		{message("m", list("x", "b", 1), choice("y", "n", cases("c", "b", "c", "a")...), nested("z", "d"), view("w", "c", 0, 1), nested("v", "e")), []string{"b", "c", "a", "d", "e"}},
		{message("m", choice("x", "n", cases("z", "y")...), choice("y", "m", cases("y", "x", "z")...)), []string{"z", "y", "x"}},
		// A choice refers to those of its cases only, other fields to Of only.
		{message("m", api.Field{Kind: api.KindChoice, Of: "a", Tag: "b", From: "c", Cases: cases("d")}), []string{"d"}},
		{message("m", api.Field{Kind: api.KindMessage, Of: "a", Tag: "b", From: "c", Cases: cases("d")}), []string{"a"}},
		{message("m", api.Field{Kind: api.KindList, Of: "a", Cases: cases("d"), Size: sized(0, term(1, "e"))}), []string{"a"}},
		{message("m", api.Field{Kind: api.KindView, Of: "a", Cases: cases("d")}), []string{"a"}},
		{message("m", choice("x", "n")), nil},
		// Names are as they stand, whether or not they are those of messages.
		{message("m", nested("x", "m"), nested("y", "?"), choice("z", "n", api.Case{Low: 3, High: 1, Of: "none"})), []string{"m", "?", "none"}},
	} {
		refers := schema.Refers(x.m)
		for range 2 {
			if l := slices.Collect(refers); !slices.Equal(l, x.want) {
				t.Errorf("%+v: %q, not %q", x.m, l, x.want)
			}
		}
	}
}

func TestKindsThatReferToNothing(t *testing.T) {
	for _, kind := range append(others, kinds...) {
		switch kind {
		case api.KindList, api.KindMessage, api.KindView, api.KindChoice:
			continue
		}
		for name := range schema.Refers(message("m", api.Field{Name: "x", Kind: kind, Of: "a", Tag: "b", From: "c", Cases: cases("d", "e")})) {
			t.Errorf("kind %d: %q", kind, name)
		}
	}
}

func TestRefersLeftEarly(t *testing.T) {
	all := []string{"c", "a", "b", "d"}
	refers := schema.Refers(message("m", nested("x", "c"), choice("y", "n", cases("a", "c", "b")...), list("z", "d", 1)))
	for left := range all {
		var l []string
		for name := range refers {
			if len(l) == left {
				break
			}
			l = append(l, name)
		}
		if !slices.Equal(l, all[:left]) {
			t.Errorf("left behind %d: %q", left, l)
		}
	}
	n := 0
	for range refers {
		n += len(slices.Collect(refers))
	}
	if n != 16 {
		t.Errorf("a loop within a loop: %d", n)
	}
}

func TestRefersKeepsItsMessage(t *testing.T) {
	m := message("m", nested("x", "a"), choice("y", "n", cases("b", "c")...))
	refers := schema.Refers(m)
	m.Fields[0].Of, m.Fields[1].Cases[0].Of, m.Fields[1].Kind = "z", "z", api.KindPad
	if l := slices.Collect(refers); !slices.Equal(l, []string{"a", "b", "c"}) {
		t.Errorf("after a change of the argument: %q", l)
	}
}

func TestRefersOfManyNames(t *testing.T) {
	var of []string
	for i := range 100000 {
		of = append(of, string([]byte{byte(i >> 16), byte(i >> 8), byte(i)}))
	}
	m := message("m", choice("x", "n", cases(of...)...), choice("y", "n", cases(of...)...))
	if l := slices.Collect(schema.Refers(m)); !slices.Equal(l, of) {
		t.Errorf("%d names", len(l))
	}
}

// natured checks the depth of a message and whether it is strict.
func natured(t *testing.T, d api.Definition, message, depth int, strict bool) {
	t.Helper()
	if n, e := schema.Depth(d, message); n != depth || e != api.OK {
		t.Errorf("depth of %d: %d, code %d, not %d", message, n, e, depth)
	}
	if is, e := schema.Strict(d, message); is != strict || e != api.OK {
		t.Errorf("%d is strict: %t, code %d", message, is, e)
	}
}

func TestDepthAndStrict(t *testing.T) {
	for i, x := range []struct {
		depth  int
		strict bool
	}{{1, true}, {2, true}, {1, false}, {1, false}, {2, false}, {2, false}, {2, false}, {1, true}} {
		natured(t, full(), i, x.depth, x.strict)
	}
	natured(t, tested(), testedMessage, 1, false)
}

// TestNatureByEachKind looks at messages whose last field is of a kind that refers to another one.
func TestNatureByEachKind(t *testing.T) {
	for _, x := range []struct {
		of     string
		depth  int
		strict bool
	}{{"a", 2, true}, {"p", 3, true}, {"lv", 2, false}, {"lh", 2, false}, {"ll", 3, false}, {"lc", 3, false}} {
		n := unsigned("n", 8, 1, 9)
		fields := []api.Field{nested("x", x.of), list("x", x.of, 1), list("x", x.of, 0), choice("x", "n", api.Case{Low: 1, High: 1, Of: x.of}), choice("x", "n", api.Case{Low: 1, High: 1, Of: "a"}, api.Case{Low: 2, High: 2, Of: x.of}), choice("x", "n", api.Case{Low: 1, High: 1, Of: x.of}, api.Case{Low: 2, High: 2, Of: "a"})}
		if x.strict {
			fields = append(fields, view("x", x.of, 0, 1), view("x", x.of, 1, 0))
		}
		for _, f := range fields {
			d := tested()
			d.Messages[7] = message("behind", n, f)
			natured(t, d, 7, x.depth, x.strict)
			d.Messages[7] = message("behind", n, f, nested("y", "a"))
			natured(t, d, 7, x.depth, x.strict)
			d.Messages[7] = message("behind", n, nested("y", "a"), f, checksum("k", 1, "n"))
			natured(t, d, 7, x.depth, x.strict)
			d.Messages[7] = message("behind", n, f, loose(varint("y", 0, 1)))
			natured(t, d, 7, x.depth, false)
		}
	}
}

func TestLooseFields(t *testing.T) {
	h := api.Field{Name: "h", Kind: api.KindHeaders, High: 9}
	for _, x := range []struct {
		fields []api.Field
		strict bool
	}{
		{[]api.Field{varint("v", 0, 9)}, true},
		{[]api.Field{loose(varint("v", 0, 9))}, false},
		{[]api.Field{h}, true},
		{[]api.Field{loose(h)}, false},
		{[]api.Field{varint("v", 0, 9), h, pad("p", 8)}, true},
		{[]api.Field{pad("p", 8), loose(varint("v", 0, 9)), h}, false},
		{[]api.Field{pad("p", 8), varint("v", 0, 9), loose(h)}, false},
		{[]api.Field{loose(varint("v", 0, 9)), pad("p", 8)}, false},
	} {
		d := defined("m", message("a", loose(varint("v", 0, 9))), message("m", x.fields...), message("z", nested("n", "m")))
		natured(t, d, 0, 1, false)
		natured(t, d, 1, 1, x.strict)
		natured(t, d, 2, 2, x.strict)
	}
}

func TestDepthOfChains(t *testing.T) {
	d := chain(16)
	for i := range 16 {
		natured(t, d, i, i+1, true)
	}
	d.Messages[3].Fields = append(d.Messages[3].Fields, loose(varint("v", 0, 1)))
	d.Messages[6].Fields[1] = nested("f", "m5") // where a view may no longer stand
	d.Messages[10].Fields[1] = nested("f", "m9")
	d.Messages[14].Fields[1] = nested("f", "m13")
	for i := range 16 {
		natured(t, d, i, i+1, i < 3)
	}
}

func TestDepthErrors(t *testing.T) {
	refused := func(d api.Definition, message int, want api.Errno) {
		t.Helper()
		if n, e := schema.Depth(d, message); n != 0 || e != want {
			t.Errorf("depth of %d: %d, code %d, not code %d", message, n, e, want)
		}
		if is, e := schema.Strict(d, message); is || e != want {
			t.Errorf("%d is strict: %t, code %d, not code %d", message, is, e, want)
		}
	}
	for _, i := range []int{math.MinInt, -2, -1, 8, 9, 60, math.MaxInt} {
		refused(full(), i, api.ErrRange)
	}
	// That the definition is not valid comes first, wherever its flaw is.
	for _, x := range spoilers(full()) {
		d := full()
		x.spoil(&d)
		for _, i := range []int{math.MinInt, -1, 0, 6, 7, 8, math.MaxInt} {
			refused(d, i, api.ErrArg)
		}
	}
	for _, i := range []int{-1, 0, 16, 17} {
		refused(chain(17), i, api.ErrArg)
		refused(api.Definition{}, i, api.ErrArg)
	}
}

// TestManyReferences looks at messages that refer to all messages before them.
func TestManyReferences(t *testing.T) {
	d := chain(1)
	for i := 1; i < 16; i++ {
		m := message("x" + string(rune('a'+i)))
		for j, other := range d.Messages {
			m.Fields = append(m.Fields, nested("f"+string(rune('a'+j)), other.Name), nested("g"+string(rune('a'+j)), other.Name))
		}
		d.Messages = append(d.Messages, m)
		natured(t, d, i, i+1, true)
	}
}
