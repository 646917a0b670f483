package scope_test

import (
	"fmt"
	"math"
	"slices"
	"testing"

	"phrasebook/api"
	"phrasebook/schema"
	"phrasebook/scope"
)

// reached checks which messages of a definition are reached and which are not, and that exactly
// the former are left when it is pruned.
func reached(t *testing.T, d api.Definition, want, others []int) {
	t.Helper()
	if l, e := scope.Reach(d); !slices.Equal(l, want) || e != api.OK {
		t.Errorf("%v, not %v, are reached, code %d, in %+v", l, want, e, d)
	}
	if l, e := scope.Unused(d); !slices.Equal(l, others) || e != api.OK {
		t.Errorf("%v, not %v, are not reached, code %d, in %+v", l, others, e, d)
	}
	pruned := api.Definition{Name: d.Name, Start: d.Start}
	for _, i := range want {
		pruned.Messages = append(pruned.Messages, d.Messages[i])
	}
	if p, e := scope.Prune(d); !schema.Equal(p, pruned) || e != api.OK {
		t.Errorf("%+v, code %d, not %+v, is left of %+v", p, e, pruned, d)
	}
}

// paths checks the first paths to the messages of a definition (none to those that are not reached).
func paths(t *testing.T, d api.Definition, want ...[]int) {
	t.Helper()
	for i, path := range want {
		code := api.OK
		if len(path) == 0 {
			code = api.ErrNone
		}
		if l, e := scope.Path(d, i); !slices.Equal(l, path) || e != code {
			t.Errorf("%v, code %d, not %v, is the path to %d in %+v", l, e, path, i, d)
		}
	}
	for _, i := range []int{math.MinInt, -1 << 32, -2, -1, len(d.Messages), len(d.Messages) + 1, 1 << 32, math.MaxInt} {
		if l, e := scope.Path(d, i); len(l) != 0 || e != api.ErrRange {
			t.Errorf("%v, code %d, is the path to %d of %d", l, e, i, len(d.Messages))
		}
	}
}

// graph returns a definition whose messages m0, m1 and so on refer to those with some numbers, in
// that order, by a further kind of field each time.
func graph(start int, refers ...[]int) api.Definition {
	d := api.Definition{Name: "g", Start: fmt.Sprintf("m%d", start)}
	for i, l := range refers {
		m := message(fmt.Sprintf("m%d", i), unsigned("n"))
		for j, to := range l {
			name, of := fmt.Sprintf("f%d", j), fmt.Sprintf("m%d", to)
			tag := fmt.Sprintf("t%d", j)
			switch (i + j) % 4 {
			case 0:
				m.Fields = append(m.Fields, nested(name, of))
			case 1:
				m.Fields = append(m.Fields, list(name, of, "n"))
			case 2:
				m.Fields = append(m.Fields, view(name, of, "n"))
			case 3:
				m.Fields = append(m.Fields, unsigned(tag), choice(name, tag, of, of))
			}
		}
		d.Messages = append(d.Messages, m)
	}
	return d
}

func TestReach(t *testing.T) {
	reached(t, graph(0, nil), []int{0}, nil)
	reached(t, graph(0, nil, nil), []int{0}, []int{1})
	reached(t, graph(1, nil, nil), []int{1}, []int{0})
	reached(t, graph(1, nil, []int{0}), []int{0, 1}, nil)
	reached(t, graph(0, nil, []int{0}), []int{0}, []int{1})
	// Those that refer to the start, or to others that are reached, are not reached for that.
	reached(t, graph(2, nil, []int{0}, []int{0}, []int{2, 0}), []int{0, 2}, []int{1, 3})
	// A message is reached over others, also where these stand between those that are not.
	reached(t, graph(5, nil, []int{0}, nil, []int{1}, []int{2}, []int{3}), []int{0, 1, 3, 5}, []int{2, 4})
	reached(t, graph(4, nil, nil, []int{1}, nil, []int{2, 0}), []int{0, 1, 2, 4}, []int{3})
	reached(t, graph(4, nil, nil, []int{1, 0}, []int{0}, []int{3, 2}), []int{0, 1, 2, 3, 4}, nil)
}

// TestKindsThatReach goes from one message to another one over a field of each kind.
func TestKindsThatReach(t *testing.T) {
	for _, f := range []api.Field{nested("f", "b"), list("f", "b"), list("f", "b", "n"), view("f", "b", "n"), choice("f", "n", "b"), choice("f", "n", "b", "b")} {
		d := defined("c", message("a", pad("p")), message("b", pad("p")), message("c", unsigned("n"), f))
		reached(t, d, []int{1, 2}, []int{0})
		paths(t, d, nil, []int{2, 1}, []int{2})
	}
	for _, f := range []api.Field{unsigned("b"), constant("b"), varint("b"), octets("b", "n"), {Name: "b", Kind: api.KindUntil}, {Name: "b", Kind: api.KindHeaders, High: 2}, pad("b"), checksum("b", "n")} {
		d := defined("c", message("a", pad("p")), message("b", pad("p")), message("c", unsigned("n"), f))
		reached(t, d, []int{2}, []int{0, 1})
		paths(t, d, nil, nil, []int{2})
	}
	// All cases count, whichever numbers select them.
	d := defined("c", message("a", pad("p")), message("b", pad("p")), message("e", pad("p")), message("c", unsigned("n"), choice("f", "n", "e", "a", "e")))
	reached(t, d, []int{0, 2, 3}, []int{1})
	// Names of fields have nothing to do with those of messages.
	d = defined("n", message("a", pad("n")), message("n", unsigned("a"), octets("b", "a"), checksum("d", "a")), message("b", nested("n", "n")))
	reached(t, d, []int{1}, []int{0, 2})
}

func TestPath(t *testing.T) {
	paths(t, graph(0, nil), []int{0})
	paths(t, graph(1, nil, nil), nil, []int{1})
	paths(t, graph(1, nil, []int{0}), []int{1, 0}, []int{1})
	paths(t, graph(0, nil, []int{0}), []int{0}, nil)
	paths(t, graph(3, nil, []int{0}, []int{1}, []int{2}, []int{3}), []int{3, 2, 1, 0}, []int{3, 2, 1}, []int{3, 2}, []int{3}, nil)
	// A path of fewer messages comes before one with lower indices.
	paths(t, graph(3, nil, []int{0}, []int{1}, []int{1, 2}), []int{3, 1, 0}, []int{3, 1}, []int{3, 2}, []int{3})
	paths(t, graph(4, nil, []int{0}, []int{1}, []int{0}, []int{2, 3}), []int{4, 3, 0}, []int{4, 2, 1}, []int{4, 2}, []int{4, 3}, []int{4})
	paths(t, graph(4, nil, []int{0}, []int{1}, []int{0}, []int{3, 2}), []int{4, 3, 0}, []int{4, 2, 1}, []int{4, 2}, []int{4, 3}, []int{4})
}

// TestPathsOfTheSameLength has the lowest index decide at the first difference, whatever comes behind it.
func TestPathsOfTheSameLength(t *testing.T) {
	// Of two ways to 0, over 1 and over 2, the order of the fields makes no difference.
	for _, last := range [][]int{{1, 2}, {2, 1}, {2, 1, 2, 1}} {
		paths(t, graph(3, nil, []int{0}, []int{0}, last), []int{3, 1, 0}, []int{3, 1}, []int{3, 2}, []int{3})
	}
	// 5 3 2 0 comes before 5 4 1 0, though 2 is above 1.
	for _, last := range [][]int{{3, 4}, {4, 3}} {
		paths(t, graph(5, nil, []int{0}, []int{0}, []int{2}, []int{1}, last), []int{5, 3, 2, 0}, []int{5, 4, 1}, []int{5, 3, 2}, []int{5, 3}, []int{5, 4}, []int{5})
	}
	// 6 4 3 1 0 and not 6 5 2 1 0 nor 6 5 3 1 0: the way to 1 is that over 3, though 2 is below it.
	for _, middle := range [][]int{{2, 3}, {3, 2}} {
		paths(t, graph(6, nil, []int{0}, []int{1}, []int{1}, []int{3}, middle, []int{5, 4}), []int{6, 4, 3, 1, 0}, []int{6, 4, 3, 1}, []int{6, 5, 2}, []int{6, 4, 3}, []int{6, 4}, []int{6, 5}, []int{6})
	}
}

// TestOneCaseAfterTheOther has the messages of a choice in an order other than theirs.
func TestOneCaseAfterTheOther(t *testing.T) {
	p := pad("p")
	d := defined("e", message("a", p), message("b", nested("x", "a")), message("c", nested("x", "a")), message("e", unsigned("n"), choice("x", "n", "c", "b")))
	paths(t, d, []int{3, 1, 0}, []int{3, 1}, []int{3, 2}, []int{3})
}

// chain returns a definition of messages inside of each other, with some others in between.
func chain(n int) api.Definition {
	d := api.Definition{Name: "d", Start: fmt.Sprintf("m%d", n-1)}
	for i := range n {
		m := message(fmt.Sprintf("m%d", i), pad("p"))
		if i > 0 {
			m.Fields = append(m.Fields, nested("x", fmt.Sprintf("m%d", i-1)))
		}
		d.Messages = append(d.Messages, message(fmt.Sprintf("o%d", i), pad("p")), m)
	}
	return d
}

func TestDeepestDefinition(t *testing.T) {
	d := chain(api.MaxDepth)
	path := []int{}
	var all, others []int
	for i := range d.Messages {
		if i%2 == 0 {
			others = append(others, i)
		} else {
			all = append(all, i)
		}
	}
	reached(t, d, all, others)
	for i := len(d.Messages) - 1; i > 0; i -= 2 {
		path = append(path, i)
		if l, e := scope.Path(d, i); !slices.Equal(l, path) || e != api.OK {
			t.Errorf("%v, code %d, not %v", l, e, path)
		}
	}
	if l, e := scope.Path(d, 1); len(l) != api.MaxDepth || e != api.OK {
		t.Errorf("%d messages, code %d", len(l), e)
	}
	refused(t, chain(api.MaxDepth+1))
}

func TestMostMessages(t *testing.T) {
	d := graph(api.MaxMessages-1, make([][]int, api.MaxMessages)...)
	last := message(fmt.Sprintf("m%d", api.MaxMessages-1))
	var all []int
	for i := range 39 {
		all = append(all, 20+i)
		last.Fields = append(last.Fields, nested(fmt.Sprintf("f%d", i), fmt.Sprintf("m%d", 58-i)))
	}
	d.Messages[api.MaxMessages-1] = last
	var others []int
	for i := range 20 {
		others = append(others, i)
	}
	reached(t, d, append(all, 59), others)
	d.Messages = append(d.Messages, message("more", pad("p")))
	refused(t, d)
}

// refused checks that nothing is found in a definition, as it is not valid, wherever a path would lead.
func refused(t *testing.T, d api.Definition) {
	t.Helper()
	if l, e := scope.Reach(d); len(l) != 0 || e != api.ErrArg {
		t.Errorf("%v, code %d, are reached in %+v", l, e, d)
	}
	if l, e := scope.Unused(d); len(l) != 0 || e != api.ErrArg {
		t.Errorf("%v, code %d, are not reached in %+v", l, e, d)
	}
	if p, e := scope.Prune(d); !schema.Equal(p, api.Definition{}) || e != api.ErrArg {
		t.Errorf("%+v, code %d, is left of %+v", p, e, d)
	}
	for _, i := range []int{math.MinInt, -1, 0, 1, 2, len(d.Messages) - 1, len(d.Messages), math.MaxInt} {
		if l, e := scope.Path(d, i); len(l) != 0 || e != api.ErrArg {
			t.Errorf("%v, code %d, is the path to %d in %+v", l, e, i, d)
		}
	}
}

func TestDefinitionsThatAreNotValid(t *testing.T) {
	refused(t, api.Definition{})
	refused(t, defined("m"))
	refused(t, defined("m", message("m")))
	refused(t, defined("m", message("m", api.Field{})))
	refused(t, defined("m", message("m", nested("x", "m"))))
	refused(t, defined("m", message("m", nested("x", "a")), message("a", nested("x", "m"))))
	refused(t, defined("m", message("m", pad("p")), message("m", pad("p"))))
	for _, spoil := range []func(*api.Definition){
		func(d *api.Definition) { d.Name = "" },
		func(d *api.Definition) { d.Start = "x" },
		func(d *api.Definition) { d.Start = "" },
		func(d *api.Definition) { d.Messages[1].Fields[0].Of = "x" },
		func(d *api.Definition) { d.Messages[1].Fields[0].Of = "b" },
		func(d *api.Definition) { d.Messages[1].Fields[0].Of = "c" },
		func(d *api.Definition) { d.Messages[1].Fields[0].Bits = 1 },
		func(d *api.Definition) { d.Messages[2].Fields[1].Kind = 99 },
		func(d *api.Definition) { d.Messages[2].Fields[2].Size.Base = -1 },
		func(d *api.Definition) { d.Messages[2].Fields[3].Cases[0].Of = "z" },
		func(d *api.Definition) { d.Messages[0].Name = "z" },
		// A flaw counts wherever it is.
		func(d *api.Definition) { d.Messages[3].Fields[0].Bits = 0 },
		func(d *api.Definition) { d.Messages[3].Fields = nil },
	} {
		d := example()
		spoil(&d)
		refused(t, d)
	}
}

func TestPrune(t *testing.T) {
	d := example()
	p, e := scope.Prune(d)
	want := example()
	want.Messages = want.Messages[:3]
	if !schema.Equal(p, want) || e != api.OK {
		t.Errorf("%+v, code %d", p, e)
	}
	d.Start = "b"
	want.Start, want.Messages = "b", want.Messages[:2]
	if p, e := scope.Prune(d); !schema.Equal(p, want) || e != api.OK {
		t.Errorf("%+v, code %d", p, e)
	}
	d.Start, d.Name = "z", "other"
	want.Start, want.Name, want.Messages = "z", "other", example().Messages[3:]
	if p, e := scope.Prune(d); !schema.Equal(p, want) || e != api.OK {
		t.Errorf("%+v, code %d", p, e)
	}
}

// TestMemory changes what a call has returned: neither the definition nor another result changes.
func TestMemory(t *testing.T) {
	d := example()
	p, _ := scope.Prune(d)
	q, _ := scope.Prune(d)
	for i := range p.Messages {
		for j := range p.Messages[i].Fields {
			f := &p.Messages[i].Fields[j]
			f.Name = "?"
			clear(f.Size.Terms)
			clear(f.Cases)
			f.Size.Terms = append(f.Size.Terms, api.Term{})
			f.Cases = append(f.Cases, api.Case{})
		}
		p.Messages[i].Name = "?"
		p.Messages[i].Fields = append(p.Messages[i].Fields, api.Field{})
	}
	p.Messages = append(p.Messages, api.Message{})
	want := example()
	if !schema.Equal(d, want) {
		t.Errorf("%+v is changed", d)
	}
	want.Messages = want.Messages[:3]
	if !schema.Equal(q, want) {
		t.Errorf("%+v is changed", q)
	}
	clear(d.Messages[0].Fields)
	clear(d.Messages[2].Fields[2].Size.Terms)
	clear(d.Messages[2].Fields[3].Cases)
	clear(d.Messages)
	if !schema.Equal(q, want) {
		t.Errorf("%+v is changed with the definition", q)
	}
	fresh(t, func() ([]int, api.Errno) { return scope.Uses(example().Messages[2], 2) })
	fresh(t, func() ([]int, api.Errno) { return scope.Users(example().Messages[2], 2) })
	fresh(t, func() ([]int, api.Errno) { return scope.Reach(example()) })
	fresh(t, func() ([]int, api.Errno) { return scope.Unused(example()) })
	fresh(t, func() ([]int, api.Errno) { return scope.Path(example(), 0) })
}

// fresh checks that a function returns the same list after the first one was changed.
func fresh(t *testing.T, call func() ([]int, api.Errno)) {
	t.Helper()
	l, e := call()
	want := slices.Clone(l)
	for i := range l {
		l[i] = -1
	}
	again, f := call()
	if len(want) == 0 || !slices.Equal(again, want) || e != api.OK || f != api.OK {
		t.Errorf("%v, code %d, not %v, code %d", again, f, want, e)
	}
}
