package size_test

import (
	"math"
	"testing"

	"phrasebook/api"
	"phrasebook/size"
)

type values map[string]int

type ranges map[string]api.Range

const greatest = api.MaxVarint - 1

// valued checks the number of a size, as that of Eval and, where it may be one, as a length.
func valued(t *testing.T, s api.Size, v values, want int) {
	t.Helper()
	if n, e := size.Eval(s, v); n != want || e != api.OK {
		t.Errorf("%v with %v: %d, code %d, not %d", s, v, n, e, want)
	}
	length, code := want, api.OK
	if want < 0 || want > most {
		length, code = 0, api.ErrRange
	}
	if n, e := size.Length(s, v); n != length || e != code {
		t.Errorf("length %v with %v: %d, code %d, not %d, code %d", s, v, n, e, length, code)
	}
}

// unvalued checks that a size has no number.
func unvalued(t *testing.T, s api.Size, v values, want api.Errno) {
	t.Helper()
	if n, e := size.Eval(s, v); n != 0 || e != want {
		t.Errorf("%v with %v: %d, code %d, not code %d", s, v, n, e, want)
	}
	if n, e := size.Length(s, v); n != 0 || e != want {
		t.Errorf("length %v with %v: %d, code %d, not code %d", s, v, n, e, want)
	}
}

func TestEval(t *testing.T) {
	s := made(4, term(2, "n"), term(-1, "m"))
	valued(t, s, values{"n": 5, "m": 3}, 11)
	valued(t, s, values{"n": 0, "m": 0}, 4)
	valued(t, s, values{"n": 0, "m": 4}, 0)
	valued(t, s, values{"n": 0, "m": 5}, -1)
	valued(t, s, values{"n": most/2 - 2, "m": 0}, most)
	valued(t, s, values{"n": most/2 - 1, "m": 1}, most+1)
	valued(t, s, values{"n": greatest, "m": 0}, 1<<36+2)
	valued(t, s, values{"n": 0, "m": greatest}, 5-1<<35)
	valued(t, made(0), nil, 0)
	valued(t, made(-3), nil, -3)
	valued(t, made(most), values{}, most)
	valued(t, made(-most), values{"a": 1}, -most)
	high := made(most, term(most, "a"), term(most, "b"), term(most, "c"), term(most, "d"))
	valued(t, high, values{"a": greatest, "b": greatest, "c": greatest, "d": greatest}, 1<<57-3<<20)
	low := made(-most, term(-most, "a"), term(-most, "b"), term(-most, "c"), term(-most, "d"))
	valued(t, low, values{"a": greatest, "b": greatest, "c": greatest, "d": greatest}, 3<<20-1<<57)
}

func TestEvalLooksAtItsFieldsOnly(t *testing.T) {
	s := made(4, term(2, "n"), term(-1, "m"))
	valued(t, s, values{"n": 5, "m": 3, "x": -1, "N": 1 << 35, "": math.MinInt}, 11)
	valued(t, made(9), values{"x": -1}, 9)
	unvalued(t, s, values{"n": 5, "x": -1}, api.ErrNone)
}

func TestEvalErrors(t *testing.T) {
	s := made(4, term(2, "n"), term(-1, "m"))
	unvalued(t, s, nil, api.ErrNone)
	unvalued(t, s, values{}, api.ErrNone)
	unvalued(t, s, values{"n": 5}, api.ErrNone)
	unvalued(t, s, values{"m": 5}, api.ErrNone)
	unvalued(t, s, values{"N": 1, "M": 1}, api.ErrNone)
	for _, wrong := range []int{-1, api.MaxVarint, math.MinInt, math.MaxInt} {
		unvalued(t, s, values{"n": wrong, "m": 0}, api.ErrArg)
		unvalued(t, s, values{"n": 0, "m": wrong}, api.ErrArg)
		// What is not allowed comes before what is missing, whether it stands ahead of it or behind.
		unvalued(t, s, values{"n": wrong}, api.ErrArg)
		unvalued(t, s, values{"m": wrong}, api.ErrArg)
	}
	for _, s := range wrongSizes() {
		unvalued(t, s, nil, api.ErrArg)
		unvalued(t, s, values{"a": 1, "b": 1, "c": 1, "d": 1, "e": 1, "f": 1, "g": 1}, api.ErrArg)
	}
}

func TestInterval(t *testing.T) {
	s := made(4, term(2, "n"), term(-1, "m"))
	all := api.Range{Low: 0, High: greatest}
	for _, x := range []struct {
		s    api.Size
		r    ranges
		want api.Range
	}{
		{s, ranges{"n": {Low: 0, High: 10}, "m": {Low: 1, High: 4}}, api.Range{Low: 0, High: 23}},
		{s, ranges{"n": {Low: 3, High: 3}, "m": {Low: 1, High: 1}}, api.Range{Low: 9, High: 9}},
		{s, ranges{"n": {}, "m": {}}, api.Range{Low: 4, High: 4}},
		{s, ranges{"n": {}, "m": all}, api.Range{Low: 5 - 1<<35, High: 4}},
		{s, ranges{"n": all, "m": {Low: greatest, High: greatest}}, api.Range{Low: 5 - 1<<35, High: 1<<35 + 3}},
		{s, ranges{"n": {Low: 1, High: 2}, "m": {Low: 3, High: 4}, "x": {Low: 2, High: 1}, "y": {Low: -1}}, api.Range{Low: 2, High: 5}},
		{made(-5), nil, api.Range{Low: -5, High: -5}},
		{made(0), ranges{"x": {Low: 1}}, api.Range{}},
		{made(0, term(-3, "a"), term(-1, "b")), ranges{"a": {Low: 1, High: 2}, "b": {Low: 10, High: 20}}, api.Range{Low: -26, High: -13}},
		{made(most, term(most, "a"), term(most, "b"), term(most, "c"), term(most, "d")), ranges{"a": all, "b": all, "c": all, "d": all}, api.Range{Low: most, High: 1<<57 - 3<<20}},
		{made(-most, term(-most, "a"), term(-most, "b"), term(-most, "c"), term(-most, "d")), ranges{"a": all, "b": all, "c": all, "d": all}, api.Range{Low: 3<<20 - 1<<57, High: -most}},
	} {
		if r, e := size.Interval(x.s, x.r); r != x.want || e != api.OK {
			t.Errorf("%v with %v: %v, code %d, not %v", x.s, x.r, r, e, x.want)
		}
	}
}

func TestIntervalErrors(t *testing.T) {
	s := made(4, term(2, "n"), term(-1, "m"))
	refused := func(s api.Size, r ranges, want api.Errno) {
		t.Helper()
		if interval, e := size.Interval(s, r); interval != (api.Range{}) || e != want {
			t.Errorf("%v with %v: %v, code %d, not code %d", s, r, interval, e, want)
		}
	}
	right := api.Range{Low: 1, High: 2}
	refused(s, nil, api.ErrNone)
	refused(s, ranges{"n": right}, api.ErrNone)
	refused(s, ranges{"m": right}, api.ErrNone)
	refused(s, ranges{"m": right, "N": {Low: -1}}, api.ErrNone)
	for _, wrong := range []api.Range{
		{Low: 2, High: 1}, {Low: 1, High: 0}, {Low: -1, High: 1}, {Low: -1, High: -1}, {Low: 0, High: api.MaxVarint}, {Low: api.MaxVarint, High: api.MaxVarint},
		{Low: greatest, High: greatest - 1}, {Low: 0, High: -1}, {Low: math.MinInt, High: math.MaxInt}, {Low: 0, High: math.MaxInt}, {Low: math.MinInt, High: 0}, {Low: math.MaxInt, High: math.MinInt},
	} {
		refused(s, ranges{"n": wrong, "m": right}, api.ErrArg)
		refused(s, ranges{"n": right, "m": wrong}, api.ErrArg)
		refused(s, ranges{"n": wrong}, api.ErrArg)
		refused(s, ranges{"m": wrong}, api.ErrArg)
	}
	for _, s := range wrongSizes() {
		refused(s, nil, api.ErrArg)
		refused(s, ranges{"a": right, "b": right, "c": right, "d": right, "e": right, "f": right, "g": right}, api.ErrArg)
	}
}

func TestSolve(t *testing.T) {
	s := made(4, term(2, "n"), term(-1, "m"))
	for _, x := range []struct {
		s      api.Size
		field  string
		number int
		v      values
		want   int
	}{
		{s, "n", 11, values{"m": 3}, 5},
		{s, "n", 1, values{"m": 3}, 0},
		{s, "n", 2*greatest + 1, values{"m": 3}, greatest},
		{s, "m", 11, values{"n": 5}, 3},
		{s, "m", 14, values{"n": 5}, 0},
		{s, "m", 4 - greatest, values{"n": 0}, greatest},
		{s, "m", 4 + greatest, values{"n": greatest}, greatest},
		// A value of the field itself, or of a field that the size does not have, is not looked at.
		{s, "m", 11, values{"n": 5, "m": -1}, 3},
		{s, "m", 11, values{"n": 5, "m": 77}, 3},
		{s, "n", 11, values{"m": 3, "n": 1 << 35, "x": -1}, 5},
		{made(0, term(1, "a")), "a", 8, nil, 8},
		{made(7, term(-3, "a")), "a", 1, nil, 2},
		{made(-7, term(3, "a")), "a", -7, nil, 0},
		{made(most, term(most, "a"), term(most, "b"), term(most, "c"), term(most, "d")), "b", 1<<57 - 3<<20, values{"a": greatest, "c": greatest, "d": greatest}, greatest},
		{made(-most, term(-most, "a"), term(-most, "b"), term(-most, "c"), term(-most, "d")), "d", 3<<20 - 1<<57, values{"a": greatest, "b": greatest, "c": greatest}, greatest},
	} {
		if v, e := size.Solve(x.s, x.field, x.number, x.v); v != x.want || e != api.OK {
			t.Errorf("%v is %d with %v for %s: %d, code %d, not %d", x.s, x.number, x.v, x.field, v, e, x.want)
		}
	}
}

func unsolved(t *testing.T, s api.Size, field string, number int, v values, want api.Errno) {
	t.Helper()
	if n, e := size.Solve(s, field, number, v); n != 0 || e != want {
		t.Errorf("%v is %d with %v for %s: %d, code %d, not code %d", s, number, v, field, n, e, want)
	}
}

func TestSolveWithoutAnAllowedValue(t *testing.T) {
	s := made(4, term(2, "n"), term(-1, "m"))
	for _, number := range []int{0, -1, 12, 10, -2, 2*greatest + 2, 2*greatest + 3, math.MaxInt, math.MaxInt - 1, math.MinInt, math.MinInt + 1} {
		unsolved(t, s, "n", number, values{"m": 3}, api.ErrNone)
	}
	for _, number := range []int{15, 16, 14 - api.MaxVarint, 13 - api.MaxVarint, math.MaxInt, math.MinInt} {
		unsolved(t, s, "m", number, values{"n": 5}, api.ErrNone)
	}
	for _, x := range []api.Size{
		made(most, term(most, "a"), term(most, "b"), term(most, "c"), term(most, "d")), made(-most, term(-most, "a"), term(-most, "b"), term(-most, "c"), term(-most, "d")),
		made(most, term(-most, "a"), term(most, "b"), term(most, "c"), term(most, "d")), made(0, term(1, "a"), term(-1, "b"), term(-1, "c"), term(-1, "d")), made(0, term(-1, "a"), term(1, "b"), term(1, "c"), term(1, "d")),
	} {
		for _, number := range []int{math.MaxInt, math.MaxInt - 1<<20, math.MinInt, math.MinInt + 1<<20, 1 << 60, -1 << 60} {
			unsolved(t, x, "a", number, values{"b": greatest, "c": greatest, "d": greatest}, api.ErrNone)
		}
	}
}

func TestSolveErrors(t *testing.T) {
	s := made(4, term(2, "n"), term(-1, "m"))
	unsolved(t, s, "n", 11, nil, api.ErrNone)
	unsolved(t, s, "n", 11, values{"n": 5}, api.ErrNone)
	unsolved(t, s, "m", 11, values{"m": 3}, api.ErrNone)
	for _, field := range []string{"x", "", "N", "nn", "-"} {
		unsolved(t, s, field, 11, values{"n": 5, "m": 3}, api.ErrNone)
		unsolved(t, s, field, 11, values{"n": 5, "m": 3, field: 0}, api.ErrNone)
		unsolved(t, s, field, 11, values{"n": 5}, api.ErrNone)
		unsolved(t, s, field, 11, nil, api.ErrNone)
		unsolved(t, made(11), field, 11, values{field: 0}, api.ErrNone)
		// All fields are others than this one, so all of their values have to be allowed.
		unsolved(t, s, field, 11, values{"n": -1, "m": 3}, api.ErrArg)
		unsolved(t, s, field, 11, values{"m": 1 << 35}, api.ErrArg)
	}
	for _, wrong := range []int{-1, api.MaxVarint, math.MinInt, math.MaxInt} {
		unsolved(t, s, "n", 11, values{"m": wrong}, api.ErrArg)
		unsolved(t, s, "m", 11, values{"n": wrong}, api.ErrArg)
		unsolved(t, s, "n", math.MinInt, values{"m": wrong}, api.ErrArg)
		unsolved(t, made(0, term(1, "a"), term(1, "b"), term(1, "c")), "a", 11, values{"c": wrong}, api.ErrArg)
		unsolved(t, made(0, term(1, "a"), term(1, "b"), term(1, "c")), "c", 11, values{"a": wrong}, api.ErrArg)
	}
	for _, s := range wrongSizes() {
		for _, field := range []string{"a", "b", "c", "d", "", "1", "x"} {
			unsolved(t, s, field, 11, nil, api.ErrArg)
			unsolved(t, s, field, 11, values{"a": 1, "b": 1, "c": 1, "d": 1, "e": 1, "f": 1, "g": 1, "1": 1}, api.ErrArg)
		}
	}
}
