package size_test

import (
	"slices"
	"testing"

	"phrasebook/api"
	"phrasebook/size"
)

func TestAdd(t *testing.T) {
	for _, x := range []struct{ a, b, want api.Size }{
		{made(4, term(2, "n"), term(-1, "m")), made(-4, term(1, "m"), term(3, "a")), made(0, term(3, "a"), term(2, "n"))},
		{made(0), made(0), made(0)},
		{made(3), made(-5), made(-2)},
		{made(1, term(1, "a")), made(2), made(3, term(1, "a"))},
		{made(1, term(1, "a")), made(2, term(1, "a")), made(3, term(2, "a"))},
		{made(1, term(1, "a")), made(-1, term(-1, "a")), made(0)},
		{made(0, term(1, "b"), term(1, "a")), made(0), made(0, term(1, "a"), term(1, "b"))},
		// Names are in the order of their bytes, a name ahead of a longer one.
		{made(0, term(1, "b"), term(2, "a_"), term(3, "a0")), made(0, term(4, "B")), made(0, term(4, "B"), term(3, "a0"), term(2, "a_"), term(1, "b"))},
		{made(0, term(1, "ab"), term(2, "a")), made(0, term(4, "aB")), made(0, term(2, "a"), term(4, "aB"), term(1, "ab"))},
		{made(0, term(1, "a"), term(2, "b"), term(3, "c"), term(4, "d")), made(0, term(4, "d"), term(3, "c"), term(2, "b"), term(1, "a")), made(0, term(2, "a"), term(4, "b"), term(6, "c"), term(8, "d"))},
		// Terms that vanish take no place.
		{made(0, term(1, "a"), term(2, "b"), term(3, "c"), term(4, "d")), made(0, term(-1, "a"), term(-2, "b"), term(1, "e"), term(1, "f")), made(0, term(3, "c"), term(4, "d"), term(1, "e"), term(1, "f"))},
		{made(most-1, term(most-1, "a")), made(1, term(1, "a")), made(most, term(most, "a"))},
		{made(1-most, term(1-most, "a")), made(-1, term(-1, "a")), made(-most, term(-most, "a"))},
		{made(most, term(most, "a")), made(-most, term(-most, "a")), made(0)},
	} {
		for _, l := range [][2]api.Size{{x.a, x.b}, {x.b, x.a}} {
			if s, e := size.Add(l[0], l[1]); !identical(s, x.want) || e != api.OK {
				t.Errorf("%v and %v: %v, code %d, not %v", l[0], l[1], s, e, x.want)
			}
		}
	}
}

func TestAddErrors(t *testing.T) {
	refused := func(a, b api.Size, want api.Errno) {
		t.Helper()
		for _, l := range [][2]api.Size{{a, b}, {b, a}} {
			if s, e := size.Add(l[0], l[1]); !empty(s) || e != want {
				t.Errorf("%v and %v: %v, code %d, not code %d", l[0], l[1], s, e, want)
			}
		}
	}
	refused(made(most), made(1), api.ErrRange)
	refused(made(-most), made(-1), api.ErrRange)
	refused(made(most), made(most), api.ErrRange)
	refused(made(0, term(most, "a")), made(0, term(1, "a")), api.ErrRange)
	refused(made(0, term(-most, "a")), made(0, term(-1, "a")), api.ErrRange)
	refused(made(0, term(1, "a"), term(1, "b"), term(1, "c"), term(most, "d")), made(0, term(most, "d"), term(-1, "a")), api.ErrRange)
	refused(made(0, term(1, "a"), term(1, "b"), term(1, "c")), made(0, term(1, "d"), term(1, "e")), api.ErrFull)
	refused(made(0, term(1, "a"), term(1, "b"), term(1, "c"), term(1, "d")), made(0, term(1, "e"), term(1, "f"), term(1, "g"), term(1, "h")), api.ErrFull)
	refused(made(0, term(1, "a"), term(1, "b"), term(1, "c"), term(1, "d")), made(0, term(-1, "a"), term(1, "e"), term(1, "f")), api.ErrFull)
	// A number that is too great comes before too many terms.
	refused(made(0, term(most, "a"), term(1, "b"), term(1, "c")), made(0, term(1, "d"), term(1, "e"), term(1, "a")), api.ErrRange)
	refused(made(most, term(1, "a"), term(1, "b"), term(1, "c")), made(1, term(1, "d"), term(1, "e")), api.ErrRange)
	// A size that is not valid comes before both.
	for _, wrong := range wrongSizes() {
		for _, other := range append(rightSizes(), wrong, made(most, term(most, "a"), term(most, "x"), term(1, "y"), term(1, "z"))) {
			refused(wrong, other, api.ErrArg)
		}
	}
}

func TestNormal(t *testing.T) {
	for _, x := range []struct{ s, want api.Size }{
		{made(0), made(0)},
		{made(-most), made(-most)},
		{made(most, term(most, "a")), made(most, term(most, "a"))},
		{made(4, term(2, "n"), term(-1, "m")), made(4, term(-1, "m"), term(2, "n"))},
		{made(4, term(-1, "m"), term(2, "n")), made(4, term(-1, "m"), term(2, "n"))},
		{made(0, term(1, "b1"), term(2, "b"), term(3, "Z"), term(4, "a_")), made(0, term(3, "Z"), term(4, "a_"), term(2, "b"), term(1, "b1"))},
		{made(0, term(-most, "d"), term(most, "c"), term(-1, "b"), term(1, "a")), made(0, term(1, "a"), term(-1, "b"), term(most, "c"), term(-most, "d"))},
	} {
		if s, e := size.Normal(x.s); !identical(s, x.want) || e != api.OK {
			t.Errorf("%v: %v, code %d, not %v", x.s, s, e, x.want)
		}
		if s, e := size.Normal(x.want); !identical(s, x.want) || e != api.OK {
			t.Errorf("%v: %v, code %d, but it is in normal form", x.want, s, e)
		}
	}
	for _, wrong := range wrongSizes() {
		if s, e := size.Normal(wrong); !empty(s) || e != api.ErrArg {
			t.Errorf("%v: %v, code %d", wrong, s, e)
		}
	}
}

func TestEqual(t *testing.T) {
	// Sizes of one group are equal to each other, and to no others.
	groups := [][]api.Size{
		{{}, made(0), {Terms: []api.Term{}}},
		{made(1)},
		{made(-1)},
		{made(4, term(2, "n"), term(-1, "m")), made(4, term(-1, "m"), term(2, "n"))},
		{made(5, term(2, "n"), term(-1, "m"))},
		{made(4, term(2, "n"), term(1, "m"))},
		{made(4, term(2, "m"), term(-1, "n"))},
		{made(4, term(2, "n"))},
		{made(4, term(-1, "m"))},
		{made(4, term(2, "N"), term(-1, "m"))},
		{made(4, term(2, "n"), term(-1, "m"), term(1, "a")), made(4, term(1, "a"), term(2, "n"), term(-1, "m"))},
		{made(0, term(1, "a"), term(2, "b"), term(3, "c"), term(4, "d")), made(0, term(4, "d"), term(3, "c"), term(2, "b"), term(1, "a")), made(0, term(3, "c"), term(1, "a"), term(4, "d"), term(2, "b"))},
		{made(0, term(1, "a"), term(2, "b"), term(3, "c"), term(5, "d"))},
		{made(most, term(most, "a")), made(most, term(most, "a"))},
	}
	for i, first := range groups {
		for j, second := range groups {
			for _, a := range first {
				for _, b := range second {
					if size.Equal(a, b) != (i == j) {
						t.Errorf("%v and %v: %t", a, b, i != j)
					}
				}
			}
		}
	}
	for _, wrong := range wrongSizes() {
		for _, s := range append(rightSizes(), wrong) {
			if size.Equal(wrong, s) || size.Equal(s, wrong) {
				t.Errorf("%v equals %v", wrong, s)
			}
		}
	}
}

func TestSumsHaveTheirOwnMemory(t *testing.T) {
	a, b := made(1, term(1, "a"), term(2, "b")), made(2, term(3, "c"))
	sum, _ := size.Add(a, b)
	same, _ := size.Add(a, made(0))
	normal, _ := size.Normal(a)
	for _, s := range []api.Size{sum, same, normal} {
		clear(s.Terms[:cap(s.Terms)])
	}
	if !slices.Equal(a.Terms, []api.Term{term(1, "a"), term(2, "b")}) || !slices.Equal(b.Terms, []api.Term{term(3, "c")}) {
		t.Errorf("after a change of the results: %v and %v", a, b)
	}
}
