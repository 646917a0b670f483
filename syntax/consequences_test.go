package syntax_test

import (
	"math/rand"
	"slices"
	"strings"
	"testing"

	"phrasebook/api"
	"phrasebook/schema"
	"phrasebook/syntax"
	"phrasebook/token"
)

func TestParseInvertsPrint(t *testing.T) {
	random := rand.New(rand.NewSource(64))
	seen := map[api.Kind]int{}
	for range 1000 {
		d := randomDefinition(random, false)
		before := schema.Copy(d)
		text, e := syntax.Print(d)
		if e != api.OK || !schema.Equal(d, before) {
			t.Fatalf("%+v: code %d", d, e)
		}
		read(t, text, d)
		formatted(t, text, text)
		sameTokens(t, strings.Join(spelled(random, d), " "), text)
		looksPrinted(t, text)
		for _, m := range d.Messages {
			for _, f := range m.Fields {
				seen[f.Kind]++
			}
		}
	}
	for kind := api.KindUint; kind <= api.KindView; kind++ {
		if seen[kind] < 100 {
			t.Errorf("only %d fields of kind %d", seen[kind], kind)
		}
	}
}

// looksPrinted checks the blanks of a printed text, whatever it says.
func looksPrinted(t *testing.T, text string) {
	t.Helper()
	lines := strings.SplitAfter(text, "\n")
	if lines[len(lines)-1] != "" {
		t.Fatalf("%q does not end with a line feed", text)
	}
	for _, line := range lines[:len(lines)-1] {
		bare, inner := strings.CutPrefix(line, "  ")
		outer := strings.HasPrefix(line, "protocol ") || strings.HasPrefix(line, "message ") || strings.HasPrefix(line, "start ") || line == "}\n"
		l, _, _ := token.Scan(bare)
		if inner == outer || spacing(l) != bare {
			t.Fatalf("%q is not as it should be, %q", bare, spacing(l))
		}
	}
}

// spacing returns the line of some tokens.
func spacing(l []token.Token) string {
	line, size := "", false
	for i, x := range l {
		none := i == 0 || size || strings.Contains(" ; : ] .. ", " "+x.Text+" ") || strings.Contains(" [ .. ", " "+l[i-1].Text+" ")
		if !none {
			line += " "
		}
		size = (size || x.Text == "[") && x.Text != "]"
		line += x.Text
	}
	return line + "\n"
}

func TestBlanksAndCommentsDoNotMatter(t *testing.T) {
	random := rand.New(rand.NewSource(65))
	for range 200 {
		d := randomDefinition(random, false)
		printed, _ := syntax.Print(d)
		for range 2 {
			tokens := spelled(random, d)
			text, places := arranged(random, tokens)
			read(t, text, d)
			formatted(t, text, printed)
			everyNameStands(t, text, d, modelNames(tokens), places)
		}
	}
}

// everyNameStands checks the places of all names of a definition in a text: those of its tokens
// with some indices.
func everyNameStands(t *testing.T, text string, d api.Definition, indices []int, places []token.Place) {
	t.Helper()
	var want []named
	for i, m := range d.Messages {
		for j := -1; j < len(m.Fields); j++ {
			at := named{places[indices[len(want)]], m.Name}
			if j >= 0 {
				at.name = m.Fields[j].Name
			}
			stands(t, text, i, j, at.Place, api.OK)
			want = append(want, at)
		}
		stands(t, text, i, len(m.Fields), token.Place{}, api.ErrNone)
	}
	stands(t, text, len(d.Messages), -1, token.Place{}, api.ErrNone)
	if l := names(text); !slices.Equal(l, want) || len(want) != len(indices) {
		t.Fatalf("%q: %v, not %v", text, l, want)
	}
}

func TestFormattingTwice(t *testing.T) {
	random := rand.New(rand.NewSource(66))
	for range 500 {
		text, _ := arranged(random, spelled(random, randomDefinition(random, false)))
		once, _, e := syntax.Format(text)
		if e != api.OK {
			t.Fatalf("%q: code %d", text, e)
		}
		formatted(t, once, once)
		read(t, once, parsed(t, text))
	}
}

// TestAnyBytes checks that each function ends for all texts, and that they agree.
func TestAnyBytes(t *testing.T) {
	random := rand.New(rand.NewSource(67))
	texts := []string{whole, framed("bytes [2*n+1]"), framed("choice n { 0..3: a; }")}
	for range 5000 {
		b := []byte(texts[random.Intn(len(texts))])
		for range 1 + random.Intn(3) {
			i := random.Intn(len(b))
			switch random.Intn(4) {
			case 0:
				b[i] = byte(random.Intn(256))
			case 1:
				b = b[:i+1]
			case 2:
				b = slices.Delete(b, i, i+1)
			default:
				b = slices.Insert(b, i, "{}[];:.=\"#0a \n$"[random.Intn(15)])
			}
			if len(b) == 0 {
				break
			}
		}
		text := string(b)
		d, at, e := syntax.Parse(text)
		if e != api.OK {
			refused(t, text, at, e)
			continue
		}
		printed, e := syntax.Print(d)
		if e != api.OK || !schema.Valid(d) {
			t.Fatalf("%q: %+v, code %d", text, d, e)
		}
		formatted(t, text, printed)
		sameTokens(t, text, printed)
	}
}
