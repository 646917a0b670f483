package syntax_test

import (
	"math"
	"slices"
	"testing"

	"phrasebook/api"
	"phrasebook/syntax"
	"phrasebook/token"
)

// named is a name at a place.
type named struct {
	token.Place
	name string
}

// names returns what Names yields for a text.
func names(text string) []named {
	var l []named
	for at, name := range syntax.Names(text) {
		l = append(l, named{at, name})
	}
	return l
}

// stands checks where the name of a field or a message stands.
func stands(t *testing.T, text string, message, field int, want token.Place, code api.Errno) {
	t.Helper()
	if at, e := syntax.Where(text, message, field); at != want || e != code {
		t.Fatalf("%d, %d of %.500q: at %v, code %d, not at %v, code %d", message, field, text, at, e, want, code)
	}
}

func TestWhere(t *testing.T) {
	stands(t, whole, 0, -1, place(2, 9), api.OK)
	stands(t, whole, 0, 0, place(3, 3), api.OK)
	stands(t, whole, 1, -1, place(5, 9), api.OK)
	for i := range 13 {
		stands(t, whole, 1, i, place(6+i, 3), api.OK)
	}
	const text = "protocol p;message a{x:pad 8;message:pad 8;}# m\n\tmessage\n message # {\n\r {\n\n  uint : pad 2; start:uint 8 0..9;}start a;"
	for i, want := range [][]token.Place{{place(1, 20), place(1, 22), place(1, 30)}, {place(3, 2), place(6, 3), place(6, 17)}} {
		for j, at := range want {
			stands(t, text, i, j-1, at, api.OK)
		}
	}
}

func TestWhereNothingStands(t *testing.T) {
	for _, x := range [][2]int{
		{0, 1}, {0, -2}, {0, math.MaxInt}, {0, math.MinInt}, {1, 13}, {1, 14}, {1, -2}, {1, math.MaxInt}, {2, -1}, {2, 0}, {2, -2},
		{-1, -1}, {-1, 0}, {-2, 5}, {math.MaxInt, -1}, {math.MaxInt, 0}, {math.MinInt, -1}, {math.MinInt, 0}, {math.MaxInt, math.MaxInt}, {math.MinInt, math.MinInt},
	} {
		stands(t, whole, x[0], x[1], token.Place{}, api.ErrNone)
	}
	// The error of Parse comes first.
	stands(t, whole+"x", 9, 9, token.Place{}, api.ErrFormat)
	stands(t, whole+"x", 0, 0, token.Place{}, api.ErrFormat)
	stands(t, "", 9, 9, token.Place{}, api.ErrShort)
	stands(t, "protocol p; start p;", 9, 9, token.Place{}, api.ErrArg)
	stands(t, "protocol p; message m { x: pad 8; } start n;", 0, 0, token.Place{}, api.ErrArg)
}

func TestNames(t *testing.T) {
	want := []named{{place(2, 9), "a"}, {place(3, 3), "n"}, {place(5, 9), "Longest_name_of_all_that_exist_0"}}
	for i, name := range []string{"t", "p", "c", "v", "w", "u", "h", "b", "l", "x", "s", "k", "y"} {
		want = append(want, named{place(6+i, 3), name})
	}
	if l := names(whole); !slices.Equal(l, want) {
		t.Errorf("%v, not %v", l, want)
	}
	all := syntax.Names(whole)
	for stop := range len(want) + 1 {
		var l []named
		for at, name := range all {
			if len(l) == stop {
				break
			}
			l = append(l, named{at, name})
		}
		if !slices.Equal(l, want[:stop]) {
			t.Errorf("left after %d: %v", stop, l)
		}
		calls := 0
		all(func(token.Place, string) bool { calls++; return calls < stop })
		if calls != max(stop, 1) {
			t.Errorf("%d names after the loop was to be left at %d", calls, stop)
		}
	}
	for range all {
		if l := names(whole); !slices.Equal(l, want) {
			t.Errorf("inside of another loop: %v", l)
		}
	}
}

func TestNamesOfOtherTexts(t *testing.T) {
	for _, text := range []string{"", "a", "$", "\"", whole[:len(whole)-2], whole + ";", whole + "$", whole + "\"", "protocol p; message m { x: pad 8; } start n;", "protocol p; message m { x: pad 8; y: pad 1; } start m;"} {
		if l := names(text); len(l) > 0 {
			t.Errorf("%q: %v", text, l)
		}
	}
}
