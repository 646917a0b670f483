package syntax

import (
	"strings"

	"phrasebook/api"
	"phrasebook/schema"
	"phrasebook/size"
	"phrasebook/token"
)

// parser reads a text from its first token on. Where it cannot go on it panics with a failure.
type parser struct {
	*token.Reader
	text  // what it has read
	kinds map[api.Kind]kind
}

// failure is why a text is not that of a valid definition. Its code is OK if it is one.
type failure struct {
	place token.Place
	code  api.Errno
}

// parse returns what the text of a valid definition says.
func parse(s string) (x text, f failure) {
	r, place, e := token.New(s)
	if e != api.OK {
		return text{}, failure{place, e}
	}
	defer func() {
		if wrong, failed := recover().(failure); failed {
			x, f = text{}, wrong
		}
	}()
	p := parser{Reader: r, kinds: kinds()}
	p.read()
	return p.text, failure{}
}

// read reads the whole text, and says what is wrong with its definition only if nothing is wrong
// with the text.
func (p *parser) read() {
	d := &p.definition
	p.protocol, d.Name = p.placed("protocol")
	p.take(";")
	d.Messages = list(p, "start", p.message)
	p.start, d.Start = p.placed()
	p.take(";")
	if _, e := p.Peek(); e == api.OK {
		panic(p.wrong())
	}
	if flaw, found := schema.Check(*d); found {
		panic(failure{p.blamed(flaw), api.ErrArg})
	}
}

func (p *parser) message() api.Message {
	place, name := p.placed("message")
	places := []token.Place{place}
	p.take("{")
	fields := list(p, "}", func() api.Field {
		place, f := p.field()
		places = append(places, place)
		return f
	})
	p.messages = append(p.messages, places)
	return api.Message{Name: name, Fields: fields}
}

// field reads a field, and returns the place of its name, too.
func (p *parser) field() (token.Place, api.Field) {
	place, name := p.placed()
	p.take(":")
	f := api.Field{Name: name, Kind: p.kind()}
	p.kinds[f.Kind].read(p, &f)
	p.take(";")
	return place, f
}

func (p *parser) kind() api.Kind {
	for kind := api.KindUint; kind <= api.KindView; kind++ {
		if p.maybe(p.kinds[kind].word) {
			return kind
		}
	}
	panic(p.wrong())
}

// list reads things up to a word or a symbol, and passes that, too.
func list[T any](p *parser, end string, read func() T) []T {
	var l []T
	for !p.maybe(end) {
		l = append(l, read())
	}
	return l
}

// size reads a size in its brackets. What stands there is wrong as a whole: not the token from
// which on it is no size, but the first one.
func (p *parser) size() api.Size {
	p.take("[")
	wrong := failure{p.Place(), api.ErrFormat}
	tokens := list(p, "]", p.token)
	s, e := size.Parse(joined(tokens))
	if e != api.OK || !separate(tokens) {
		panic(wrong)
	}
	return s
}

// joined returns the texts of tokens, without anything between them.
func joined(tokens []token.Token) string {
	var all strings.Builder
	for _, t := range tokens {
		all.WriteString(t.Text)
	}
	return all.String()
}

// separate reports whether tokens are the same ones again when their joined texts are divided:
// no quotation marks are lost, and no words and numbers become one.
func separate(tokens []token.Token) bool {
	last := token.KindSymbol
	for _, t := range tokens {
		if t.Kind == token.KindQuoted || t.Kind != token.KindSymbol && last != token.KindSymbol {
			return false
		}
		last = t.Kind
	}
	return true
}

// take reads some words and symbols.
func (p *parser) take(words ...string) {
	for _, w := range words {
		if !p.maybe(w) {
			panic(p.wrong())
		}
	}
}

// maybe reads a word or a symbol if it comes next, and reports whether it did.
func (p *parser) maybe(word string) bool { return p.Take(word) == api.OK }

// placed reads some words and symbols and a name behind them, and returns the name's place, too.
func (p *parser) placed(ahead ...string) (token.Place, string) {
	p.take(ahead...)
	place := p.Place()
	name, e := p.Word()
	if e != api.OK {
		panic(p.wrong())
	}
	return place, name
}

// name reads some words and symbols and a name behind them.
func (p *parser) name(ahead ...string) string {
	_, name := p.placed(ahead...)
	return name
}

// number reads some words and symbols and a number behind them.
func (p *parser) number(ahead ...string) int {
	p.take(ahead...)
	n, e := p.Number()
	if e != api.OK {
		panic(p.wrong())
	}
	return n
}

// token reads any token.
func (p *parser) token() token.Token {
	t, e := p.Next()
	if e != api.OK {
		panic(p.wrong())
	}
	return t
}

// wrong says that no text goes on with the next token, or that there is none.
func (p *parser) wrong() failure {
	if _, e := p.Peek(); e != api.OK {
		return failure{p.Place(), api.ErrShort}
	}
	return failure{p.Place(), api.ErrFormat}
}
