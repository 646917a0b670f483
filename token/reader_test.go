package token_test

import (
	"slices"
	"strings"
	"testing"

	"phrasebook/api"
	"phrasebook/token"
)

// reading returns a reader of the tokens of a text.
func reading(t *testing.T, text string) *token.Reader {
	t.Helper()
	r, place, e := token.New(text)
	if r == nil || place != (token.Place{}) || e != api.OK {
		t.Fatalf("%q: at %v, code %d", text, place, e)
	}
	return r
}

// remains checks the tokens that a reader has not passed, and the place behind them.
func remains(t *testing.T, r *token.Reader, end token.Place, want ...token.Token) {
	t.Helper()
	if l := slices.Collect(r.Rest()); !slices.Equal(l, want) {
		t.Errorf("the rest is %v, not %v", l, want)
	}
	first, e := r.Peek()
	if len(want) == 0 {
		if first != (token.Token{}) || e != api.ErrNone || r.Place() != end {
			t.Errorf("%v, code %d, at %v, not at the end, %v", first, e, r.Place(), end)
		}
	} else if first != want[0] || e != api.OK || r.Place() != want[0].Place {
		t.Errorf("%v, code %d, at %v, not %v", first, e, r.Place(), want[0])
	}
}

func TestReader(t *testing.T) {
	const text = "a: 5;\n \"q\" "
	end := token.Place{Line: 2, Column: 6}
	l := []token.Token{at(1, 1, word("a")), at(1, 2, symbol(":")), at(1, 4, number("5", 5)), at(1, 5, symbol(";")), at(2, 2, quoted("q"))}
	r := reading(t, text)
	for i, want := range l {
		remains(t, r, end, l[i:]...)
		if x, e := r.Next(); x != want || e != api.OK {
			t.Errorf("%v, code %d, not %v", x, e, want)
		}
	}
	for range 2 {
		remains(t, r, end)
		if x, e := r.Next(); x != (token.Token{}) || e != api.ErrNone {
			t.Errorf("%v, code %d, at the end", x, e)
		}
	}
}

func TestReaderEnds(t *testing.T) {
	for text, end := range map[string]token.Place{
		"": {Line: 1, Column: 1}, " ": {Line: 1, Column: 2}, "a": {Line: 1, Column: 2}, "a\n": {Line: 2, Column: 1}, "\n\n": {Line: 3, Column: 1},
		"# a": {Line: 1, Column: 4}, "# a\n": {Line: 2, Column: 1}, "1\n #b": {Line: 2, Column: 4}, "\"a\"": {Line: 1, Column: 4}, "a\r": {Line: 1, Column: 3},
		"0x1F": {Line: 1, Column: 5}, "->": {Line: 1, Column: 3}, "a\n\n\tb ": {Line: 3, Column: 4},
	} {
		r := reading(t, text)
		l, _, _ := token.Scan(text)
		for range l {
			if r.Place() == end {
				t.Errorf("%q: at %v too early", text, end)
			}
			if _, e := r.Next(); e != api.OK {
				t.Errorf("%q: code %d", text, e)
			}
		}
		remains(t, r, end)
	}
}

func TestTakeWordNumber(t *testing.T) {
	take := func(s string) func(*token.Reader) (any, api.Errno) {
		return func(r *token.Reader) (any, api.Errno) { return nil, r.Take(s) }
	}
	name := func(r *token.Reader) (any, api.Errno) {
		s, e := r.Word()
		return s, e
	}
	count := func(r *token.Reader) (any, api.Errno) {
		n, e := r.Number()
		return n, e
	}
	for _, x := range []struct {
		text string
		call func(*token.Reader) (any, api.Errno)
		want any
		e    api.Errno
	}{
		{"a;", take("a"), nil, api.OK}, {"; a", take(";"), nil, api.OK}, {"-> a", take("->"), nil, api.OK}, {".. a", take(".."), nil, api.OK},
		{"ab;", take("a"), nil, api.ErrFormat}, {"a;", take("ab"), nil, api.ErrFormat}, {"a;", take("A"), nil, api.ErrFormat}, {"a;", take(""), nil, api.ErrFormat},
		{"a;", take("a "), nil, api.ErrFormat}, {"a;", take("a;"), nil, api.ErrFormat}, {"a;", take(";"), nil, api.ErrFormat},
		{"-> a", take("-"), nil, api.ErrFormat}, {".. a", take("."), nil, api.ErrFormat}, {". .", take(".."), nil, api.ErrFormat}, {"- >", take("->"), nil, api.ErrFormat},
		{"5;", take("5"), nil, api.ErrFormat}, {"0x5;", take("0x5"), nil, api.ErrFormat}, {"\"a\" b", take("a"), nil, api.ErrFormat}, {"\"a\" b", take("\"a\""), nil, api.ErrFormat},
		{"\"\" b", take(""), nil, api.ErrFormat}, {"\";\" b", take(";"), nil, api.ErrFormat},
		{"ab_1;", name, "ab_1", api.OK}, {"5;", name, "", api.ErrFormat}, {"; a", name, "", api.ErrFormat}, {"\"a\" b", name, "", api.ErrFormat},
		{"31;", count, 31, api.OK}, {"0x1F;", count, 31, api.OK}, {"0 a", count, 0, api.OK}, {"4611686018427387904;", count, 1 << 62, api.OK},
		{"a5;", count, 0, api.ErrFormat}, {"- 5", count, 0, api.ErrFormat}, {"\"5\" 5", count, 0, api.ErrFormat},
		{"", take("a"), nil, api.ErrNone}, {"", take(""), nil, api.ErrNone}, {" # a", name, "", api.ErrNone}, {"\n", count, 0, api.ErrNone},
	} {
		r := reading(t, x.text)
		if got, e := x.call(r); got != x.want || e != x.e {
			t.Errorf("%q: %v, code %d, not %v, code %d", x.text, got, e, x.want, x.e)
		}
		l, _, _ := token.Scan(x.text)
		end := token.Place{Line: 1 + strings.Count(x.text, "\n"), Column: 1}
		if end.Line == 1 {
			end.Column += len(x.text)
		}
		if x.e == api.OK {
			l = l[1:]
		}
		remains(t, r, end, l...)
	}
}

func TestTakeFollowsTake(t *testing.T) {
	r := reading(t, "protocol d; n: uint 8 0..255")
	for _, want := range []string{"protocol", "d", ";", "n", ":", "uint"} {
		if e := r.Take("x"); e != api.ErrFormat {
			t.Errorf("code %d ahead of %q", e, want)
		}
		if e := r.Take(want); e != api.OK {
			t.Errorf("code %d at %q", e, want)
		}
	}
	a, e := r.Number()
	b, f := r.Number()
	g := r.Take("..")
	c, h := r.Number()
	if a != 8 || b != 0 || c != 255 || e != api.OK || f != api.OK || g != api.OK || h != api.OK {
		t.Error(a, b, c, e, f, g, h)
	}
	_, e = r.Number()
	_, f = r.Word()
	if e != api.ErrNone || f != api.ErrNone || r.Take("x") != api.ErrNone {
		t.Error(e, f)
	}
}

func TestRest(t *testing.T) {
	r := reading(t, "a b c d")
	l := []token.Token{at(1, 1, word("a")), at(1, 3, word("b")), at(1, 5, word("c")), at(1, 7, word("d"))}
	all := r.Rest()
	r.Next()
	behind := r.Rest()
	for stop := range 5 {
		var got []token.Token
		for x := range all {
			if len(got) == stop {
				break
			}
			got = append(got, x)
		}
		if !slices.Equal(got, l[:stop]) {
			t.Errorf("left after %d: %v", stop, got)
		}
	}
	n := 0
	all(func(token.Token) bool { n++; return false })
	if n != 1 {
		t.Errorf("the loop went on %d times after it was left", n-1)
	}
	for range r.Rest() {
		r.Next()
	}
	if x, e := r.Next(); e != api.ErrNone {
		t.Errorf("%v, code %d, behind all", x, e)
	}
	if !slices.Equal(slices.Collect(all), l) || !slices.Equal(slices.Collect(behind), l[1:]) || len(slices.Collect(r.Rest())) != 0 {
		t.Error("the rest is not that at the time of the call")
	}
}

func TestNoReader(t *testing.T) {
	var none *token.Reader
	for _, r := range []*token.Reader{none, {}} {
		x, e := r.Peek()
		y, f := r.Next()
		s, g := r.Word()
		n, h := r.Number()
		if x != (token.Token{}) || y != (token.Token{}) || s != "" || n != 0 || e != api.ErrNil || f != api.ErrNil || g != api.ErrNil || h != api.ErrNil {
			t.Error(x, y, s, n, e, f, g, h)
		}
		if r.Take("a") != api.ErrNil || r.Take("") != api.ErrNil || r.Place() != (token.Place{}) {
			t.Error("a zero reader takes")
		}
		for x := range r.Rest() {
			t.Error(x)
		}
	}
}

func TestReadersAreSeparate(t *testing.T) {
	a, b := reading(t, "a b"), reading(t, "a b")
	a.Next()
	if a.Take("b") != api.OK || b.Take("a") != api.OK || b.Take("b") != api.OK {
		t.Error("readers share their places")
	}
}
