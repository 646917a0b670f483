package token

import (
	"strings"

	"phrasebook/api"
)

// symbols are the symbols of one byte.
const symbols = "(){}[]<>,;:.=+-*/|!?@"

// scanner is a place in a text.
type scanner struct {
	Place
	rest string // the text from there on
}

// failure is why a text has no tokens: a scanner panics with it.
type failure struct {
	place Place
	code  api.Errno
}

// scan returns the tokens of a text and the place behind it, or an error with its place.
func scan(text string) (l []Token, place Place, e api.Errno) {
	s := scanner{Place: Place{Line: 1, Column: 1}, rest: text}
	defer func() {
		if f, ok := recover().(failure); ok {
			l, place, e = nil, f.place, f.code
		}
	}()
	l = s.tokens()
	return l, s.Place, api.OK
}

// tokens passes the whole text and returns its tokens.
func (s *scanner) tokens() []Token {
	var l []Token
	kinds := []func() (Token, bool){s.word, s.number, s.quoted, s.symbol}
text:
	for {
		s.run(ofBlank)
		switch {
		case s.ended():
			break text
		case s.first() == '#':
			s.run(ofComment)
		default:
			l = append(l, s.token(kinds))
		}
	}
	return l
}

// token passes a token of one of some kinds. No two kinds begin with the same byte, so at
// most one of them is found at a place.
func (s *scanner) token(kinds []func() (Token, bool)) Token {
	place := s.Place
	for _, kind := range kinds {
		if t, found := kind(); found {
			t.Place = place
			return t
		}
	}
	panic(s.wrong())
}

func (s *scanner) word() (Token, bool) {
	if !ofLetter(s.first()) {
		return Token{}, false
	}
	room := api.MaxName
	text := s.run(func(b byte) bool {
		room--
		return room >= 0 && ofWord(b)
	})
	s.finish()
	return Token{Kind: KindWord, Text: text}, true
}

func (s *scanner) number() (Token, bool) {
	if !ofDigit(s.first()) {
		return Token{}, false
	}
	t := Token{Kind: KindNumber}
	switch {
	case strings.HasPrefix(s.rest, "0x"):
		prefix := s.pass(2)
		digits, value := s.digits(16)
		if digits == "" {
			panic(s.wrong())
		}
		t.Text, t.Value = prefix+digits, value
	case s.first() == '0':
		t.Text = s.pass(1)
	default:
		t.Text, t.Value = s.digits(10)
	}
	s.finish()
	return t, true
}

// digits passes the digits of a number up to the first one with which it is too great.
func (s *scanner) digits(base int) (text string, value int) {
	text = s.run(func(b byte) bool {
		d := digit(b)
		if d >= base || value > (MaxNumber-d)/base {
			return false
		}
		value = value*base + d
		return true
	})
	return text, value
}

func (s *scanner) quoted() (Token, bool) {
	if s.first() != '"' {
		return Token{}, false
	}
	s.pass(1)
	text := s.run(ofQuoted)
	if s.first() != '"' {
		panic(s.wrong())
	}
	s.pass(1)
	return Token{Kind: KindQuoted, Text: text}, true
}

func (s *scanner) symbol() (Token, bool) {
	length := 1
	switch {
	case strings.HasPrefix(s.rest, ".."), strings.HasPrefix(s.rest, "->"):
		length = 2
	case strings.IndexByte(symbols, s.first()) < 0:
		return Token{}, false
	}
	return Token{Kind: KindSymbol, Text: s.pass(length)}, true
}

// finish ends a word or a number, which may stand side by side with neither of them.
func (s *scanner) finish() {
	if ofWord(s.first()) {
		panic(s.wrong())
	}
}

// run passes the bytes up to the first one that does not belong to them, and returns them.
func (s *scanner) run(belongs func(byte) bool) string {
	n := 0
	for n < len(s.rest) && belongs(s.rest[n]) {
		n++
	}
	return s.pass(n)
}

// pass passes a number of bytes and returns them.
func (s *scanner) pass(n int) string {
	text := s.rest[:n]
	s.advance(text)
	s.rest = s.rest[n:]
	return text
}

func (s *scanner) ended() bool { return s.rest == "" }

// first returns the byte at the place, or 0 at the end: no token has it.
func (s *scanner) first() byte {
	if s.ended() {
		return 0
	}
	return s.rest[0]
}

// wrong says that no token goes on at this place.
func (s *scanner) wrong() failure {
	if s.ended() {
		return failure{s.Place, api.ErrShort}
	}
	return failure{s.Place, api.ErrFormat}
}
