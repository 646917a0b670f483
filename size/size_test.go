package size_test

import (
	"math"
	"slices"
	"strings"
	"testing"

	"phrasebook/api"
	"phrasebook/size"
)

func term(factor int, field string) api.Term { return api.Term{Field: field, Factor: factor} }

func made(base int, terms ...api.Term) api.Size { return api.Size{Base: base, Terms: terms} }

// identical reports whether two sizes have the same base and the same terms in the same order.
func identical(a, b api.Size) bool { return a.Base == b.Base && slices.Equal(a.Terms, b.Terms) }

func empty(s api.Size) bool { return identical(s, api.Size{}) }

const most = api.MaxLength

// wrongSizes are sizes that are not valid, each for one reason.
func wrongSizes() []api.Size {
	l := []api.Size{
		made(most + 1), made(-most - 1), made(math.MaxInt), made(math.MinInt), made(most+1, term(1, "a")), made(-most-1, term(1, "a")),
		made(0, term(1, "a"), term(1, "b"), term(1, "c"), term(1, "d"), term(1, "e")),
		made(0, term(1, "a"), term(1, "b"), term(1, "c"), term(1, "d"), term(1, "e"), term(1, "f"), term(1, "g")),
	}
	names := []string{"a", "b", "c", "d"}
	for n := 1; n <= len(names); n++ {
		for i := range n {
			var terms []api.Term
			for _, name := range names[:n] {
				terms = append(terms, term(2, name))
			}
			with := func(t api.Term) api.Size {
				wrong := slices.Clone(terms)
				wrong[i] = t
				return made(1, wrong...)
			}
			for _, factor := range []int{0, most + 1, -most - 1, math.MaxInt, math.MinInt} {
				l = append(l, with(term(factor, names[i])))
			}
			for _, name := range []string{"", "1", "_", "a-", " a", "a\xFF", strings.Repeat("a", 33)} {
				l = append(l, with(term(2, name)))
			}
			for j := range i {
				l = append(l, with(term(2, names[j])), with(term(-2, names[j])), with(term(3, names[j])))
			}
		}
	}
	return l
}

// rightSizes are valid sizes.
func rightSizes() []api.Size {
	return []api.Size{
		{}, {Terms: []api.Term{}}, made(1), made(-1), made(most), made(-most),
		made(0, term(1, "a")), made(0, term(-1, "a")), made(most, term(most, "a")), made(-most, term(-most, "a")),
		made(4, term(2, "n"), term(-1, "m")),
		made(7, term(1, "a"), term(1, "A"), term(1, "aa"), term(1, "a_")),
		made(-7, term(most, "d"), term(-most, "c"), term(1, "b"), term(-1, "a")),
		made(0, term(3, strings.Repeat("n", 32)), term(3, strings.Repeat("n", 31))),
	}
}

func TestName(t *testing.T) {
	for _, s := range []string{"a", "z", "A", "Z", "a_", "a__", "n1", "Z09", "aZ_09", "a9z", strings.Repeat("a", 31), strings.Repeat("Z", 32), "q" + strings.Repeat("9", 31), "q" + strings.Repeat("_", 31)} {
		if !size.Name(s) {
			t.Errorf("%q is not a name", s)
		}
	}
	for _, s := range []string{"", "_", "0", "9a", "_a", " a", "a ", "a b", "a-b", "a.b", "a*", "*a", "+a", "-a", "a\n", "a\x00", "\xC3\xA4", "a\xC3\xA4", "\xFF", "a\xFF", strings.Repeat("a", 33), strings.Repeat("a", 64), strings.Repeat("a", 288), strings.Repeat("a", 100000), strings.Repeat("a", 31) + "-", "a" + strings.Repeat("-", 31)} {
		if size.Name(s) {
			t.Errorf("%q is a name", s)
		}
	}
}

func TestBytesOfNames(t *testing.T) {
	const letters = "abcdefghijklmnopqrstuvwxyzABCDEFGHIJKLMNOPQRSTUVWXYZ"
	const others = "0123456789_"
	for i := range 256 {
		b := string([]byte{byte(i)})
		first, behind := strings.Contains(letters, b), strings.Contains(letters+others, b)
		if size.Name(b) != first || size.Name(b+"a") != first || size.Name(b+strings.Repeat("a", 31)) != first {
			t.Errorf("%q: %t", b, !first)
		}
		for n := 1; n < 32; n++ {
			ahead := strings.Repeat("a", n)
			if size.Name(ahead+b) != behind || n < 31 && size.Name(ahead+b+"a") != behind {
				t.Errorf("%q: %t", ahead+b, !behind)
			}
		}
	}
}

func TestValid(t *testing.T) {
	for _, s := range rightSizes() {
		if !size.Valid(s) {
			t.Errorf("%v is not valid", s)
		}
	}
	for _, s := range wrongSizes() {
		if size.Valid(s) {
			t.Errorf("%v is valid", s)
		}
	}
	if many := made(0, slices.Repeat([]api.Term{term(1, "a")}, 1000000)...); size.Valid(many) {
		t.Error("a million terms are valid")
	}
}

func TestNames(t *testing.T) {
	for _, s := range rightSizes() {
		var want []string
		for _, x := range s.Terms {
			want = append(want, x.Field)
		}
		names := size.Names(s)
		for range 2 {
			if l := slices.Collect(names); !slices.Equal(l, want) {
				t.Errorf("%v: %v", s, l)
			}
		}
	}
	for _, s := range wrongSizes() {
		for name := range size.Names(s) {
			t.Errorf("%v: %q", s, name)
		}
	}
}

func TestNamesLeftEarly(t *testing.T) {
	names := size.Names(made(0, term(1, "c"), term(2, "a"), term(3, "b")))
	for left := range 3 {
		var l []string
		for name := range names {
			if len(l) == left {
				break
			}
			l = append(l, name)
		}
		if want := []string{"c", "a", "b"}[:left]; !slices.Equal(l, want) {
			t.Errorf("left behind %d: %v", left, l)
		}
	}
	n := 0
	for range names {
		n += len(slices.Collect(names))
	}
	if n != 9 {
		t.Errorf("a loop within a loop: %d", n)
	}
}

func TestNamesKeepTheirSize(t *testing.T) {
	s := made(0, term(1, "a"), term(2, "b"))
	names := size.Names(s)
	s.Terms[0].Field, s.Terms[1].Factor = "x", 0
	if l := slices.Collect(names); !slices.Equal(l, []string{"a", "b"}) {
		t.Errorf("after a change of the argument: %v", l)
	}
}
