package token_test

import (
	"math"
	"math/big"
	"slices"
	"strconv"
	"strings"
	"testing"

	"phrasebook/api"
	"phrasebook/token"
)

func word(text string) token.Token { return token.Token{Kind: token.KindWord, Text: text} }

func number(text string, value int) token.Token {
	return token.Token{Kind: token.KindNumber, Text: text, Value: value}
}

func quoted(text string) token.Token { return token.Token{Kind: token.KindQuoted, Text: text} }

func symbol(text string) token.Token { return token.Token{Kind: token.KindSymbol, Text: text} }

func at(line, column int, t token.Token) token.Token {
	t.Place = token.Place{Line: line, Column: column}
	return t
}

// scanned checks the tokens of a text, places included.
func scanned(t *testing.T, text string, want ...token.Token) {
	t.Helper()
	l, place, e := token.Scan(text)
	if !slices.Equal(l, want) || place != (token.Place{}) || e != api.OK {
		t.Errorf("%q: %v at %v, code %d, not %v", text, l, place, e, want)
	}
}

// refused checks that a text has no tokens, for Scan and for New.
func refused(t *testing.T, text string, line, column int, want api.Errno) {
	t.Helper()
	wrong := token.Place{Line: line, Column: column}
	if l, place, e := token.Scan(text); len(l) != 0 || place != wrong || e != want {
		t.Errorf("Scan of %q: %v at %v, code %d, not at %v, code %d", text, l, place, e, wrong, want)
	}
	if r, place, e := token.New(text); r != nil || place != wrong || e != want {
		t.Errorf("New of %q: at %v, code %d, not at %v, code %d", text, place, e, wrong, want)
	}
}

func TestScan(t *testing.T) {
	scanned(t, "")
	scanned(t, "n: uint 8 0..0x1F; # x",
		at(1, 1, word("n")), at(1, 2, symbol(":")), at(1, 4, word("uint")), at(1, 9, number("8", 8)), at(1, 11, number("0", 0)),
		at(1, 12, symbol("..")), at(1, 14, number("0x1F", 31)), at(1, 18, symbol(";")))
	scanned(t, "\"\"\"a\"b\"#\"1\" \"",
		at(1, 1, quoted("")), at(1, 3, quoted("a")), at(1, 6, word("b")), at(1, 7, quoted("#")), at(1, 10, number("1", 1)), at(1, 11, quoted(" ")))
	scanned(t, "a(b)c", at(1, 1, word("a")), at(1, 2, symbol("(")), at(1, 3, word("b")), at(1, 4, symbol(")")), at(1, 5, word("c")))
}

func TestScanPlaces(t *testing.T) {
	scanned(t, "a\nb\n\n  c", at(1, 1, word("a")), at(2, 1, word("b")), at(4, 3, word("c")))
	scanned(t, "\ta\r\n\r b", at(1, 2, word("a")), at(2, 3, word("b")))
	scanned(t, "\n\n;\n", at(3, 1, symbol(";")))
	scanned(t, "#\n#x\n 1", at(3, 2, number("1", 1)))
	scanned(t, "a \"b c\" d", at(1, 1, word("a")), at(1, 3, quoted("b c")), at(1, 9, word("d")))
	scanned(t, "#\xC3\xA4\n#\xC3\xA4 a\n  b", at(3, 3, word("b")))
	long := strings.Repeat(" ", 70000)
	scanned(t, long+"a"+strings.Repeat("\n", 70000)+long+"b", at(1, 70001, word("a")), at(70001, 70001, word("b")))
}

func TestScanBlanksAndComments(t *testing.T) {
	scanned(t, " \t\r\n")
	scanned(t, "#")
	scanned(t, "#\n")
	scanned(t, " # a")
	scanned(t, "## \"")
	scanned(t, "a#b", at(1, 1, word("a")))
	scanned(t, "1#b", at(1, 1, number("1", 1)))
	scanned(t, "0#b", at(1, 1, number("0", 0)))
	scanned(t, "0x1#b", at(1, 1, number("0x1", 1)))
	scanned(t, "\"a\"#b", at(1, 1, quoted("a")))
	scanned(t, ".#\n.", at(1, 1, symbol(".")), at(2, 1, symbol(".")))
	scanned(t, "# a\r b\n c", at(2, 2, word("c")))
	var all []byte
	for b := range 256 {
		if b != '\n' {
			all = append(all, byte(b))
		}
	}
	scanned(t, "#"+string(all)+"\na", at(2, 1, word("a")))
	scanned(t, "#"+string(all))
}

func TestScanWords(t *testing.T) {
	for _, s := range []string{"a", "z", "A", "Z", "a_", "a0", "a9", "x1", "aZ_09", "O", strings.Repeat("a", 32), "Z" + strings.Repeat("9", 31), "a" + strings.Repeat("_", 31)} {
		scanned(t, s, at(1, 1, word(s)))
		scanned(t, s+" b", at(1, 1, word(s)), at(1, len(s)+2, word("b")))
		scanned(t, s+".", at(1, 1, word(s)), at(1, len(s)+1, symbol(".")))
		scanned(t, s+"\"\"", at(1, 1, word(s)), at(1, len(s)+1, quoted("")))
	}
	for _, next := range []string{"a", "Z", "_", "0", "9"} {
		refused(t, strings.Repeat("a", 32)+next, 1, 33, api.ErrFormat)
		refused(t, " b\n "+strings.Repeat("a", 32)+next+strings.Repeat(next, 99), 2, 34, api.ErrFormat)
	}
	refused(t, "_", 1, 1, api.ErrFormat)
	refused(t, "_a", 1, 1, api.ErrFormat)
	refused(t, "a _", 1, 3, api.ErrFormat)
	refused(t, "a\xC3\xA4", 1, 2, api.ErrFormat)
}

func TestScanNumbers(t *testing.T) {
	for s, v := range map[string]int{
		"0": 0, "1": 1, "9": 9, "10": 10, "1234567890": 1234567890, "4611686018427387903": 1<<62 - 1, "4611686018427387904": 1 << 62,
		"0x0": 0, "0x9": 9, "0xa": 10, "0xf": 15, "0xA": 10, "0xF": 15, "0x1F": 31, "0xaBcDeF": 0xABCDEF, "0x00": 0, "0x01": 1,
		"0x4000000000000000": 1 << 62, "0x3fffffffffffffff": 1<<62 - 1, "0x" + strings.Repeat("0", 999): 0,
		"0x" + strings.Repeat("0", 999) + "4000000000000000": 1 << 62,
	} {
		scanned(t, s, at(1, 1, number(s, v)))
		scanned(t, s+"-"+s, at(1, 1, number(s, v)), at(1, len(s)+1, symbol("-")), at(1, len(s)+2, number(s, v)))
		scanned(t, s+"\n", at(1, 1, number(s, v)))
		for _, next := range []string{"g", "z", "G", "Z", "X", "_"} {
			refused(t, s+next, 1, len(s)+1, api.ErrFormat)
		}
	}
	scanned(t, "1.2", at(1, 1, number("1", 1)), at(1, 2, symbol(".")), at(1, 3, number("2", 2)))
	scanned(t, "1..2", at(1, 1, number("1", 1)), at(1, 2, symbol("..")), at(1, 4, number("2", 2)))
	scanned(t, "-1", at(1, 1, symbol("-")), at(1, 2, number("1", 1)))
	scanned(t, "0 0", at(1, 1, number("0", 0)), at(1, 3, number("0", 0)))
}

func TestScanWrongNumbers(t *testing.T) {
	for _, x := range []struct {
		s      string
		column int
	}{
		{"00", 2}, {"007", 2}, {"01", 2}, {"09 ", 2}, {"0a", 2}, {"0_", 2}, {"0X1", 2}, {"0b1", 2},
		{"12b", 3}, {"1_", 2}, {"1x", 2}, {"1a", 2}, {"10x1", 3},
		{"0xg", 3}, {"0x ", 3}, {"0x\n", 3}, {"0x#", 3}, {"0x_", 3}, {"0xx", 3}, {"0x-1", 3}, {"0x\x00", 3}, {"0x/", 3}, {"0x:", 3}, {"0x@", 3}, {"0xG", 3}, {"0x`", 3},
		{"0x1g", 4}, {"0x1_", 4}, {"0x1x", 4}, {"0x1G", 4}, {"0xfg", 4},
		{"4611686018427387905", 19}, {"4611686018427387909", 19}, {"5000000000000000000", 19}, {"46116860184273879040", 20},
		{"9999999999999999999", 19}, {"99999999999999999999999999999999999999999", 19}, {"461168601842738790400000000", 20},
		{"10000000000000000000", 20}, {"18446744073709551617", 20}, {"92233720368547758070", 19},
		{"0x4000000000000001", 18}, {"0x5000000000000000", 18}, {"0x8000000000000000", 18}, {"0xffffffffffffffff", 18},
		{"0x10000000000000000", 19}, {"0x40000000000000000", 19}, {"0x3ffffffffffffffff", 19}, {"0x00004000000000000001", 22}, {"0x00001000000000000000000001", 23},
	} {
		refused(t, x.s, 1, x.column, api.ErrFormat)
		refused(t, "a;\r\n "+x.s, 2, x.column+1, api.ErrFormat)
	}
	refused(t, "0x", 1, 3, api.ErrShort)
	refused(t, "a\n\n 0x", 3, 4, api.ErrShort)
}

// TestScanGreatNumbers compares values with those of exact arithmetic.
func TestScanGreatNumbers(t *testing.T) {
	great := new(big.Int).Lsh(big.NewInt(1), 62)
	values := []int{0, 1, 1 << 31, 1 << 32, 1<<62 - 1, 1 << 62}
	for i := range 62 {
		values = append(values, 1<<i, 1<<i-1, 1<<62-1<<i)
	}
	for _, v := range values {
		for _, base := range []int{10, 16} {
			prefix := map[int]string{10: "", 16: "0x"}[base]
			text := prefix + strconv.FormatInt(int64(v), base)
			scanned(t, text, at(1, 1, number(text, v)))
			for d := range base {
				longer := text + strconv.FormatInt(int64(d), base)
				exact, _ := new(big.Int).SetString(longer[len(prefix):], base)
				switch {
				case v == 0 && base == 10:
					refused(t, longer, 1, 2, api.ErrFormat)
				case exact.Cmp(great) > 0:
					refused(t, longer, 1, len(longer), api.ErrFormat)
				default:
					scanned(t, longer, at(1, 1, number(longer, int(exact.Int64()))))
				}
			}
		}
	}
}

func TestScanQuoted(t *testing.T) {
	for b := range 256 {
		text := "\"" + string([]byte{byte(b)})
		switch {
		case b == '"':
			scanned(t, text, at(1, 1, quoted("")))
			refused(t, text+"\"", 1, 4, api.ErrShort)
		case b >= 0x20 && b <= 0x7E:
			scanned(t, text+"\"", at(1, 1, quoted(string(rune(b)))))
			refused(t, text, 1, 3, api.ErrShort)
		default:
			refused(t, text, 1, 2, api.ErrFormat)
			refused(t, text+"\"", 1, 2, api.ErrFormat)
		}
	}
	refused(t, "\"", 1, 2, api.ErrShort)
	refused(t, "\"a", 1, 3, api.ErrShort)
	refused(t, "a\n \"b c", 2, 6, api.ErrShort)
	refused(t, "\"a\n\"", 1, 3, api.ErrFormat)
	refused(t, "\n\"ab\x7F", 2, 4, api.ErrFormat)
	refused(t, "\"\"\"", 1, 4, api.ErrShort)
	scanned(t, "\"a\\\"b", at(1, 1, quoted("a\\")), at(1, 5, word("b")))
	long := strings.Repeat("~ ", 5000)
	scanned(t, "\""+long+"\"a", at(1, 1, quoted(long)), at(1, 10003, word("a")))
}

func TestScanSymbols(t *testing.T) {
	const single = "(){}[]<>,;:.=+-*/|!?@"
	for b := range 256 {
		text := string([]byte{byte(b)})
		switch {
		case strings.Contains(single, text):
			scanned(t, text, at(1, 1, symbol(text)))
			scanned(t, text+" "+text, at(1, 1, symbol(text)), at(1, 3, symbol(text)))
		case strings.Contains(" \t\r\n#", text):
			scanned(t, text)
		case strings.Contains("\"", text):
			refused(t, text, 1, 2, api.ErrShort)
		case b >= '0' && b <= '9':
			scanned(t, text, at(1, 1, number(text, b-'0')))
		case b >= 'A' && b <= 'Z' || b >= 'a' && b <= 'z':
			scanned(t, text, at(1, 1, word(text)))
		default:
			refused(t, text, 1, 1, api.ErrFormat)
			refused(t, "a\n 1 "+text+text, 2, 4, api.ErrFormat)
			refused(t, ";"+text, 1, 2, api.ErrFormat)
		}
	}
}

func TestScanLongestSymbols(t *testing.T) {
	for text, want := range map[string][]string{
		"..": {".."}, "...": {"..", "."}, "....": {"..", ".."}, ". .": {".", "."}, "->": {"->"}, "-->": {"-", "->"}, "->>": {"->", ">"}, "->->": {"->", "->"},
		"- >": {"-", ">"}, "-.>": {"-", ".", ">"}, "-..>": {"-", "..", ">"}, "..->": {"..", "->"}, "->..": {"->", ".."}, "<-": {"<", "-"}, ">-": {">", "-"},
		"==": {"=", "="}, "--": {"-", "-"}, "<>": {"<", ">"}, "!=": {"!", "="}, "()": {"(", ")"}, "::": {":", ":"}, "+-*/|!?@": {"+", "-", "*", "/", "|", "!", "?", "@"},
	} {
		l, _, e := token.Scan(text)
		var got []string
		for _, x := range l {
			if got = append(got, x.Text); x.Kind != token.KindSymbol || x.Value != 0 || x.Place.Line != 1 {
				t.Errorf("%q: %v", text, x)
			}
		}
		if !slices.Equal(got, want) || e != api.OK {
			t.Errorf("%q: %q, code %d", text, got, e)
		}
	}
}

func TestScanFirstError(t *testing.T) {
	refused(t, "$ \"a", 1, 1, api.ErrFormat)
	refused(t, "\"a $", 1, 5, api.ErrShort)
	refused(t, "# $\n$\n\"", 2, 1, api.ErrFormat)
	refused(t, "# a\n\x01", 2, 1, api.ErrFormat)
	refused(t, "a 0x; \"", 1, 5, api.ErrFormat)
	refused(t, "12b 007", 1, 3, api.ErrFormat)
	refused(t, "a\n 12b", 2, 4, api.ErrFormat)
	refused(t, "\x00", 1, 1, api.ErrFormat)
	refused(t, "a \x00", 1, 3, api.ErrFormat)
}

func TestMaxNumber(t *testing.T) {
	if token.MaxNumber != math.MaxInt64/2+1 {
		t.Error(token.MaxNumber)
	}
}

func TestScanIsFresh(t *testing.T) {
	a, _, _ := token.Scan("a 1 \"b\"")
	b, _, _ := token.Scan("a 1 \"b\"")
	a[0], a[2] = symbol("x"), symbol("y")
	_ = append(a, symbol("z"))
	if b[0] != at(1, 1, word("a")) || b[2] != at(1, 5, quoted("b")) {
		t.Error(b)
	}
}
