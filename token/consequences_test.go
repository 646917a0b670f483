package token_test

import (
	"math/rand"
	"regexp"
	"slices"
	"strconv"
	"strings"
	"testing"

	"phrasebook/api"
	"phrasebook/token"
)

// The model: regular expressions say what a token is and which whole texts have tokens.
const (
	wordForm   = `[A-Za-z][A-Za-z0-9_]{0,31}`
	numberForm = `0x[0-9A-Fa-f]+|[1-9][0-9]*|0`
	quotedForm = `"[ !#-~]*"`
	symbolForm = `\.\.|->|[(){}\[\]<>,;:.=+\-*/|!?@]`
	betweens   = `[ \t\n\r]|#[^\n]*`
)

var (
	wholeForm = regexp.MustCompile(`^(?:[ \t\n\r]|#[^\n]*(?:\n|$)|(?:` + wordForm + `)\b|(?:` + numberForm + `)\b|` + quotedForm + `|` + symbolForm + `)*$`)
	tokenForm = longest(`^(?:(` + wordForm + `)|(` + numberForm + `)|(` + quotedForm + `)|(` + symbolForm + `)|` + betweens + `)`)
)

func longest(form string) *regexp.Regexp {
	r := regexp.MustCompile(form)
	r.Longest()
	return r
}

func placeOf(text string, offset int) token.Place {
	ahead := text[:offset]
	return token.Place{Line: 1 + strings.Count(ahead, "\n"), Column: offset - strings.LastIndex(ahead, "\n")}
}

func offsetOf(text string, place token.Place) int {
	offset := 0
	for range place.Line - 1 {
		offset += strings.Index(text[offset:], "\n") + 1
	}
	return offset + place.Column - 1
}

// modelTokens returns the tokens of a whole text, and whether it has tokens.
func modelTokens(text string) ([]token.Token, bool) {
	if !wholeForm.MatchString(text) {
		return nil, false
	}
	var l []token.Token
	for i := 0; i < len(text); {
		m := tokenForm.FindStringSubmatchIndex(text[i:])
		for kind := token.KindWord; kind <= token.KindSymbol; kind++ {
			if m[2*kind] < 0 {
				continue
			}
			x := token.Token{Kind: kind, Text: text[i : i+m[1]], Place: placeOf(text, i)}
			switch kind {
			case token.KindNumber:
				v, e := strconv.ParseInt(x.Text, 0, 64)
				if e != nil || v > token.MaxNumber {
					return nil, false
				}
				x.Value = int(v)
			case token.KindQuoted:
				x.Text = strings.Trim(x.Text, `"`)
			}
			l = append(l, x)
		}
		i += m[1]
	}
	return l, true
}

// mayGoOn reports whether a text with tokens begins so: one more byte at most ends what has begun.
func mayGoOn(text string) bool {
	for _, end := range []string{"", `"`, "0"} {
		if _, ok := modelTokens(text + end); ok {
			return true
		}
	}
	return false
}

func modelScan(text string) ([]token.Token, token.Place, api.Errno) {
	for i := range len(text) {
		if !mayGoOn(text[:i+1]) {
			return nil, placeOf(text, i), api.ErrFormat
		}
	}
	l, ok := modelTokens(text)
	if !ok {
		return nil, placeOf(text, len(text)), api.ErrShort
	}
	return l, token.Place{}, api.OK
}

func compareWithModel(t *testing.T, text string) {
	t.Helper()
	l, place, e := token.Scan(text)
	want, wantPlace, wantError := modelScan(text)
	if !slices.Equal(l, want) || place != wantPlace || e != wantError {
		t.Fatalf("%q: %v at %v, code %d, not %v at %v, code %d", text, l, place, e, want, wantPlace, wantError)
	}
}

func TestModelOfShortTexts(t *testing.T) {
	const bytes = "a01x_\".->#\n $\x80"
	var visit func(string)
	visit = func(text string) {
		compareWithModel(t, text)
		if len(text) < 4 {
			for i := range len(bytes) {
				visit(text + bytes[i:i+1])
			}
		}
	}
	visit("")
}

// pieces are those of which long texts consist.
var pieces = []string{
	"a", "b_1", "X", "0", "7", "12", "0x", "0x1F", "4611686018427387904", "461168601842738790", "0x400000000000000", "_", "\"", "\"a b\"", "\"\"", "\"#\"", ";", ":", "..", ".", "->", "-", ">", "(", "]", "@",
	" ", " ", " ", "\n", "\t", "\r\n", "# c", "#\n", "# \"\n", "$", "\x00", "\xFF", "\x1F", strings.Repeat("w", 31), strings.Repeat("v", 32), strings.Repeat("u", 33),
}

func TestModelOfLongTexts(t *testing.T) {
	random := rand.New(rand.NewSource(3))
	for range 6000 {
		var text strings.Builder
		for range random.Intn(12) {
			text.WriteString(pieces[random.Intn(len(pieces))])
		}
		compareWithModel(t, text.String())
	}
}

// randomTokens returns tokens of all kinds.
func randomTokens(random *rand.Rand) []token.Token {
	const letters = "abcxyzABCXYZ"
	const others = letters + "0189_"
	var l []token.Token
	for range random.Intn(20) {
		switch random.Intn(4) {
		case 0:
			text := letters[random.Intn(len(letters)):][:1]
			for range random.Intn(32) {
				text += others[random.Intn(len(others)):][:1]
			}
			l = append(l, word(text))
		case 1:
			v := random.Intn(token.MaxNumber) >> random.Intn(62)
			text := []string{strconv.Itoa(v), "0x" + strconv.FormatInt(int64(v), 16), "0x0" + strings.ToUpper(strconv.FormatInt(int64(v), 16))}[random.Intn(3)]
			l = append(l, number(text, v))
		case 2:
			text := make([]byte, random.Intn(9))
			for i := range text {
				for text[i] = '"'; text[i] == '"'; {
					text[i] = byte(0x20 + random.Intn(0x5F))
				}
			}
			l = append(l, quoted(string(text)))
		case 3:
			all := strings.Fields("( ) { } [ ] < > , ; : . = + - * / | ! ? @ .. ->")
			l = append(l, symbol(all[random.Intn(len(all))]))
		}
	}
	return l
}

func TestScanOfJoin(t *testing.T) {
	random := rand.New(rand.NewSource(4))
	for range 3000 {
		l := randomTokens(random)
		text, e := token.Join(l)
		if e != api.OK {
			t.Fatalf("%v: code %d", l, e)
		}
		again, _, e := token.Scan(text)
		if e != api.OK || !slices.EqualFunc(l, again, token.Equal) {
			t.Fatalf("%q: %v, code %d, not %v", text, again, e, l)
		}
		if second, e := token.Join(again); second != text || e != api.OK {
			t.Fatalf("%q, code %d, not %q", second, e, text)
		}
	}
}

func TestAheadOfTheFirstWrongByte(t *testing.T) {
	random := rand.New(rand.NewSource(5))
	tried := 0
	for range 20000 {
		var text string
		for range 1 + random.Intn(8) {
			text += pieces[random.Intn(len(pieces))]
		}
		_, place, e := token.Scan(text)
		if e == api.OK {
			continue
		}
		offset := offsetOf(text, place)
		if e == api.ErrShort && offset != len(text) || e == api.ErrFormat && offset >= len(text) {
			t.Fatalf("%q: code %d at %v", text, e, place)
		}
		if _, end, code := token.Scan(text[:offset]); code != api.OK && (code != api.ErrShort || end != place) {
			t.Fatalf("%q: code %d at %v, but ahead of it code %d at %v", text, e, place, code, end)
		}
		tried++
	}
	if tried < 1000 {
		t.Errorf("only %d texts", tried)
	}
}

func TestFurtherBlanksAndComments(t *testing.T) {
	random := rand.New(rand.NewSource(6))
	between := []string{" ", "\n", "\t", "\r", " \r\n ", "#\n", "# a \" 0x $ \xFF\n", " # ;\n\n", "#->\n#\n"}
	for range 3000 {
		l := randomTokens(random)
		text := strings.Repeat(" ", random.Intn(2))
		for _, x := range l {
			one, _ := token.Join([]token.Token{x})
			for text += one + " "; random.Intn(2) == 0; {
				text += between[random.Intn(len(between))]
			}
		}
		again, _, e := token.Scan(text)
		if e != api.OK || !slices.EqualFunc(l, again, token.Equal) {
			t.Fatalf("%q: %v, code %d, not %v", text, again, e, l)
		}
		// Where tokens need nothing between them, it changes nothing either.
		for i := len(again) - 1; i >= 0; i-- {
			offset := offsetOf(text, again[i].Place)
			text = text[:offset] + between[random.Intn(len(between))] + text[offset:]
		}
		text += strings.Repeat("# end", random.Intn(2))
		further, _, e := token.Scan(text)
		if e != api.OK || !slices.EqualFunc(l, further, token.Equal) {
			t.Fatalf("%q: %v, code %d, not %v", text, further, e, l)
		}
	}
}

func TestBlanksInDenseTexts(t *testing.T) {
	const dense = "m{n:uint(8)0..0x1F;b:\"x\"[n]->a.b...c-->1}"
	l, _, e := token.Scan(dense)
	if e != api.OK || len(l) != 29 {
		t.Fatal(len(l), e)
	}
	for _, x := range l {
		for _, between := range []string{" ", "\n", "# c\n", "\t#\n\r"} {
			offset := offsetOf(dense, x.Place)
			again, _, e := token.Scan(dense[:offset] + between + dense[offset:])
			if e != api.OK || !slices.EqualFunc(l, again, token.Equal) {
				t.Errorf("%q at %v: %v, code %d", between, x.Place, again, e)
			}
		}
	}
}
