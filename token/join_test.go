package token_test

import (
	"slices"
	"strings"
	"testing"

	"phrasebook/api"
	"phrasebook/token"
)

func TestJoin(t *testing.T) {
	for _, x := range []struct {
		l    []token.Token
		want string
	}{
		{nil, ""},
		{[]token.Token{}, ""},
		{[]token.Token{symbol("->"), quoted("a b"), number("0x1F", 31)}, "-> \"a b\" 0x1F"},
		{[]token.Token{word("a")}, "a"},
		{[]token.Token{quoted("")}, "\"\""},
		{[]token.Token{quoted(" ~#'\\1")}, "\" ~#'\\1\""},
		{[]token.Token{symbol("."), symbol("."), symbol("..")}, ". . .."},
		{[]token.Token{number("0", 0), number("0x00", 0), number("4611686018427387904", 1<<62)}, "0 0x00 4611686018427387904"},
		{[]token.Token{word(strings.Repeat("z", 32)), symbol(";")}, strings.Repeat("z", 32) + " ;"},
		{[]token.Token{at(9, 9, word("b")), at(1, 1, word("a")), at(-1, 0, number("1", 1))}, "b a 1"},
	} {
		given := slices.Clone(x.l)
		if s, e := token.Join(x.l); s != x.want || e != api.OK {
			t.Errorf("%v: %q, code %d, not %q", x.l, s, e, x.want)
		}
		if !slices.Equal(x.l, given) {
			t.Errorf("Join has changed its tokens: %v", x.l)
		}
	}
}

func TestJoinOfOthers(t *testing.T) {
	others := []token.Token{
		{},
		{Text: "a"},
		{Kind: -1, Text: "a"},
		{Kind: 5, Text: "a"},
		{Kind: 5, Text: ";"},
		word(""), word("1"), word("_"), word("_a"), word("a b"), word(" a"), word("a "), word("a\n"), word("a#"), word("#"), word("a;"), word("a-b"),
		word(strings.Repeat("a", 33)), word("\"a\""), word("\xC3\xA4"), word(";"), word("0x1"),
		{Kind: token.KindWord, Text: "a", Value: 1},
		{Kind: token.KindWord, Text: "a", Value: -1},
		number("", 0), number("31", 0), number("31", 30), number("31", -31), number("0x1F", 1), number("0x", 0), number("007", 7), number("00", 0), number("-1", -1), number("+1", 1),
		number("1 ", 1), number(" 1", 1), number("1#", 1), number("1 2", 1), number("1a", 1), number("a", 0), number("a", 10), number("0X1", 1), number("1.2", 1), number(";", 0),
		number("4611686018427387905", 1<<62+1), number("\"1\"", 1), number("1_000", 1000),
		quoted("\""), quoted("a\""), quoted("\"a"), quoted("a\" \"b"), quoted("a\"b"), quoted("\x1F"), quoted("\x7F"), quoted("\n"), quoted("a\nb"), quoted("\t"), quoted("\x80"), quoted("a\" #"), quoted("\"\""), quoted("\x00"),
		{Kind: token.KindQuoted, Text: "31", Value: 31},
		symbol(""), symbol("->>"), symbol("$"), symbol("#"), symbol("\""), symbol("\"\""), symbol("a"), symbol("1"), symbol("; "), symbol(" ;"), symbol("()"), symbol("..."), symbol("=="), symbol("_"), symbol("\x00"), symbol("-\n>"), symbol(";#"),
		{Kind: token.KindSymbol, Text: ";", Value: 1},
	}
	for _, x := range others {
		for _, l := range [][]token.Token{{x}, {x, word("a")}, {word("a"), x}, {quoted("31"), x, symbol(";")}, {x, x}} {
			if s, e := token.Join(l); s != "" || e != api.ErrArg {
				t.Errorf("%v: %q, code %d", l, s, e)
			}
		}
	}
}

func TestEqual(t *testing.T) {
	// Tokens of one group are equal to each other, and to no others.
	groups := [][]token.Token{
		{word("a"), at(1, 1, word("a")), at(7, 3, word("a")), {Kind: token.KindWord, Text: "a", Value: 3}},
		{word("A"), at(1, 1, word("A"))},
		{word("ab")},
		{word("31")},
		{word("")},
		{number("31", 31), number("0x1F", 31), number("0x1f", 31), at(2, 2, number("0x001f", 31)), number("", 31)},
		{number("0", 0), number("0x0", 0), number("31", 0)},
		{number("32", 32)},
		{quoted("31"), at(4, 4, quoted("31"))},
		{quoted("a"), {Kind: token.KindQuoted, Text: "a", Value: 9}},
		{quoted("")},
		{symbol("->"), at(5, 5, symbol("->"))},
		{symbol("-")},
		{symbol(".."), {Kind: token.KindSymbol, Text: "..", Value: 1}},
		{symbol("a")},
		{{}, at(1, 1, token.Token{}), {Value: 5}},
		{{Text: "a"}},
		{{Kind: 9, Text: "a"}, {Kind: 9, Text: "a", Value: 1}},
	}
	for i, first := range groups {
		for j, second := range groups {
			for _, a := range first {
				for _, b := range second {
					if token.Equal(a, b) != (i == j) {
						t.Errorf("%v and %v: %t", a, b, i != j)
					}
				}
			}
		}
	}
}
