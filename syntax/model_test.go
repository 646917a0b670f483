package syntax_test

import (
	"math/rand"
	"regexp"
	"slices"
	"strings"
	"testing"

	"phrasebook/api"
	"phrasebook/schema"
	"phrasebook/size"
	"phrasebook/syntax"
	"phrasebook/token"
)

// The model: a grammar, of which all ways through some tokens are followed at once.

// walk is a number of ways through some tokens.
type walk struct {
	tokens []token.Token
	far    int // how many tokens have been passed on the longest way
}

// pattern is a part of the grammar. It returns all places to which it leads from one.
type pattern func(w *walk, at int) []int

func (w *walk) pass(at int) []int {
	w.far = max(w.far, at)
	return []int{at}
}

// ofKind passes a token of a kind.
func ofKind(kind token.Kind) pattern {
	return func(w *walk, at int) []int {
		if at < len(w.tokens) && w.tokens[at].Kind == kind {
			return w.pass(at + 1)
		}
		return nil
	}
}

// spelling passes a word or a symbol with a text.
func spelling(text string) pattern {
	return func(w *walk, at int) []int {
		if at < len(w.tokens) && w.tokens[at].Text == text && (w.tokens[at].Kind == token.KindWord || w.tokens[at].Kind == token.KindSymbol) {
			return w.pass(at + 1)
		}
		return nil
	}
}

// row passes what some patterns pass, one behind the other.
func row(parts ...pattern) pattern {
	return func(w *walk, at int) []int {
		ends := []int{at}
		for _, p := range parts {
			var next []int
			for _, at := range ends {
				next = append(next, p(w, at)...)
			}
			slices.Sort(next)
			ends = slices.Compact(next)
		}
		return ends
	}
}

// either passes what one of some patterns passes.
func either(parts ...pattern) pattern {
	return func(w *walk, at int) []int {
		var ends []int
		for _, p := range parts {
			ends = append(ends, p(w, at)...)
		}
		slices.Sort(ends)
		return slices.Compact(ends)
	}
}

// repeated passes what a pattern passes, any number of times.
func repeated(p pattern) pattern {
	return func(w *walk, at int) []int {
		ends := []int{at}
		for i := 0; i < len(ends); i++ {
			for _, at := range p(w, ends[i]) {
				if !slices.Contains(ends, at) {
					ends = append(ends, at)
				}
			}
		}
		return ends
	}
}

func optional(p pattern) pattern { return either(row(), p) }

// grammar returns a pattern for some words: each stands for itself, but name, number and size,
// and a word with a question mark, which may be left out.
func grammar(text string, parts map[string]pattern) pattern {
	var l []pattern
	for _, word := range strings.Fields(text) {
		bare := strings.TrimSuffix(word, "?")
		p, found := parts[bare]
		if !found {
			p = spelling(bare)
		}
		if bare != word {
			p = optional(p)
		}
		l = append(l, p)
	}
	return row(l...)
}

func definitionGrammar() pattern {
	parts := map[string]pattern{"NAME": ofKind(token.KindWord), "NUMBER": ofKind(token.KindNumber), "SIZE": bracketed}
	parts["CASES"] = repeated(grammar("NUMBER .. NUMBER : NAME ;", parts))
	var kinds []pattern
	for _, text := range []string{
		"uint NUMBER little? NUMBER .. NUMBER", "const NUMBER little? = NUMBER", "varint NUMBER .. NUMBER loose?", "bytes SIZE", "until NUMBER max NUMBER", "headers max NUMBER loose?",
		"list SIZE of NAME", "message NAME", "choice NAME { CASES }", "pad NUMBER", "check NUMBER from NAME", "view SIZE of NAME key NUMBER",
	} {
		kinds = append(kinds, grammar(text, parts))
	}
	parts["KIND"] = either(kinds...)
	parts["FIELDS"] = repeated(grammar("NAME : KIND ;", parts))
	parts["MESSAGES"] = repeated(grammar("message NAME { FIELDS }", parts))
	return grammar("protocol NAME ; MESSAGES start NAME ;", parts)
}

// sizeForm is what the texts of a size's tokens are if they have spaces between them.
var sizeForm = regexp.MustCompile(`^(?:(?:- )?(?:[1-9][0-9]* \* )?[A-Za-z]\w*(?: [+-] (?:[1-9][0-9]* \* )?[A-Za-z]\w*)*(?: [+-] [1-9][0-9]*)?|(?:- )?[1-9][0-9]*|0)$`)

// bracketed passes a size in its brackets. Any tokens may stand behind the first bracket if there
// is no other one.
func bracketed(w *walk, at int) []int {
	if spelling("[")(w, at) == nil {
		return nil
	}
	at++
	length := slices.IndexFunc(w.tokens[at:], func(t token.Token) bool { return t.Kind == token.KindSymbol && t.Text == "]" })
	if length < 0 {
		w.pass(len(w.tokens))
		return nil
	}
	text, _ := token.Join(w.tokens[at : at+length])
	if _, e := size.Parse(strings.ReplaceAll(text, " ", "")); e != api.OK || !sizeForm.MatchString(text) {
		return nil
	}
	return w.pass(at + length + 1)
}

// modelCode returns the error of some tokens, as far as only they matter, and its place among them.
func modelCode(definition pattern, tokens []token.Token) (at int, e api.Errno) {
	w := walk{tokens: tokens}
	switch ends := definition(&w, 0); {
	case w.far < len(tokens):
		return w.far, api.ErrFormat
	case !slices.Contains(ends, len(tokens)):
		return len(tokens), api.ErrShort
	}
	return 0, api.OK
}

// sameTokens checks that a printed text has the tokens of another text.
func sameTokens(t *testing.T, text, printed string) {
	t.Helper()
	a, _, _ := token.Scan(text)
	b, _, _ := token.Scan(printed)
	if !slices.EqualFunc(a, b, token.Equal) {
		t.Fatalf("%q has other tokens than %q", text, printed)
	}
}

// compareWithModel checks what becomes of a text of some tokens, and returns its error.
func compareWithModel(t *testing.T, random *rand.Rand, definition pattern, tokens []string) api.Errno {
	t.Helper()
	text, places := arranged(random, tokens)
	l, _, scanned := token.Scan(text)
	if scanned != api.OK || len(l) != len(tokens) {
		t.Fatalf("%q has no tokens: code %d", text, scanned)
	}
	at, want := modelCode(definition, l)
	places = append(places, placeOf(text, len(text)))
	if want != api.OK {
		refused(t, text, places[at], want)
		return want
	}
	d, place, e := syntax.Parse(text)
	switch {
	case e == api.OK:
		printed, _ := syntax.Print(d)
		sameTokens(t, text, printed)
		formatted(t, text, printed)
	case e == api.ErrArg && slices.Contains(places, place):
		refused(t, text, place, e)
	default:
		t.Fatalf("%q: at %v, code %d", text, place, e)
	}
	return e
}

// vocabulary is what may get into a text.
var vocabulary = strings.Fields(`protocol message start uint const varint bytes until headers list choice pad check view little loose max of from key
	m0 m1 m2 f0 f1 f2 f3 f4 f5 x 0 1 2 3 7 8 9 16 0x10 0xFF 255 256 1048577 4611686018427387904 "n" "" "]" ";" "start"
	( ) { } [ ] < > , ; : . = + - * / | ! ? @ .. -> { } [ ] ; : = .. + - * ; : .. { }`)

// changed returns some tokens with a change at one place.
func changed(random *rand.Rand, tokens []string) []string {
	l := slices.Clone(tokens)
	i := random.Intn(len(l))
	other := vocabulary[random.Intn(len(vocabulary))]
	switch random.Intn(9) {
	case 0:
		return slices.Delete(l, i, i+1)
	case 1:
		return slices.Insert(l, i, l[i])
	case 2:
		return slices.Insert(l, i, other)
	case 3:
		return l[:i]
	case 4:
		j := random.Intn(len(l))
		l[i], l[j] = l[j], l[i]
	case 5:
		j := min(i+1, len(l)-1)
		l[i], l[j] = l[j], l[i]
	case 6:
		l[i] = other
	default:
		l[i] = like(random, l[i])
	}
	return l
}

// like returns a token of the kind of another one.
func like(random *rand.Rand, text string) string {
	of := func(text string) token.Kind {
		l, _, _ := token.Scan(text)
		return l[0].Kind
	}
	for {
		if other := vocabulary[random.Intn(len(vocabulary))]; of(other) == of(text) {
			return other
		}
	}
}

func TestModelOfChangedTexts(t *testing.T) {
	random := rand.New(rand.NewSource(61))
	definition := definitionGrammar()
	seen := map[api.Errno]int{}
	for range 300 {
		tokens := spelled(random, randomDefinition(random, false))
		for range 20 {
			l := changed(random, tokens)
			for random.Intn(4) == 0 && len(l) > 0 {
				l = changed(random, l)
			}
			seen[compareWithModel(t, random, definition, l)]++
		}
	}
	if seen[api.OK] < 200 || seen[api.ErrFormat] < 2000 || seen[api.ErrShort] < 500 || seen[api.ErrArg] < 200 {
		t.Errorf("only %v", seen)
	}
}

func TestModelOfChangedSizes(t *testing.T) {
	random := rand.New(rand.NewSource(62))
	definition := definitionGrammar()
	words := strings.Fields(`n c n2 c2 x 0 1 2 9 10 0x2 + - * + - * "n" [ ] -> ..`)
	seen := map[api.Errno]int{}
	for range 10000 {
		var l []string
		for range random.Intn(8) {
			l = append(l, words[random.Intn(len(words))])
		}
		tokens := strings.Fields("protocol p ; message m { n : uint 4 0 .. 9 ; c : const 8 = 9 ; n2 : varint 9 .. 99 ; c2 : const 8 = 1 ; f : bytes [ ] ; } start m ;")
		tokens = slices.Insert(tokens, slices.Index(tokens, "]"), l...)
		seen[compareWithModel(t, random, definition, tokens)]++
	}
	if seen[api.OK] < 300 || seen[api.ErrFormat] < 3000 || seen[api.ErrArg] < 100 {
		t.Errorf("only %v", seen)
	}
}

// modelNames returns the indices of the tokens that are names of messages and fields, in order.
func modelNames(tokens []string) []int {
	var l []int
	depth := 0
	for i, x := range tokens {
		switch {
		case x == "{":
			if depth == 0 {
				l = append(l, i-1)
			}
			depth++
		case x == "}":
			depth--
		case x == ":" && depth == 1:
			l = append(l, i-1)
		}
	}
	return l
}

func TestModelOfFlaws(t *testing.T) {
	random := rand.New(rand.NewSource(63))
	seen := map[api.FlawCode]int{}
	for range 2000 {
		d := randomDefinition(random, true)
		tokens := spelled(random, d)
		text, places := arranged(random, tokens)
		flaw, found := schema.Check(d)
		seen[flaw.Code]++
		if !found {
			read(t, text, d)
			continue
		}
		at := 1 // the name of the protocol
		switch l := modelNames(tokens); {
		case flaw.Code == api.FlawStart:
			at = len(tokens) - 2
		case flaw.Message >= 0:
			for _, m := range d.Messages[:flaw.Message] {
				l = l[1+len(m.Fields):]
			}
			at = l[1+flaw.Field]
		}
		refused(t, text, places[at], api.ErrArg)
	}
	for _, code := range []api.FlawCode{0, api.FlawTwice, api.FlawCount, api.FlawBits, api.FlawRange, api.FlawRefer, api.FlawSize, api.FlawStart} {
		if seen[code] < 20 {
			t.Errorf("only %v", seen)
		}
	}
}
