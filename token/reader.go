package token

import (
	"iter"
	"slices"

	"phrasebook/api"
)

// Reader reads tokens.
type Reader struct {
	tokens []Token // that have not been passed
	end    Place   // behind the last byte of the text; line 0 tells that there is no reader
}

// New returns a reader of the tokens of a text.
func New(s string) (*Reader, Place, api.Errno) {
	l, place, e := scan(s)
	if e != api.OK {
		return nil, place, e
	}
	return &Reader{tokens: l, end: place}, Place{}, api.OK
}

// Peek returns the next token.
func (r *Reader) Peek() (Token, api.Errno) {
	if r.none() {
		return Token{}, api.ErrNil
	}
	if len(r.tokens) == 0 {
		return Token{}, api.ErrNone
	}
	return r.tokens[0], api.OK
}

// Next passes the next token.
func (r *Reader) Next() (Token, api.Errno) {
	return r.pass(func(Token) bool { return true })
}

// Take passes the next token if it is a word or a symbol with a text.
func (r *Reader) Take(symbol string) api.Errno {
	_, e := r.pass(func(t Token) bool {
		return (t.Kind == KindWord || t.Kind == KindSymbol) && t.Text == symbol
	})
	return e
}

// Word passes a word.
func (r *Reader) Word() (string, api.Errno) {
	t, e := r.pass(func(t Token) bool { return t.Kind == KindWord })
	return t.Text, e
}

// Number passes a number.
func (r *Reader) Number() (int, api.Errno) {
	t, e := r.pass(func(t Token) bool { return t.Kind == KindNumber })
	return t.Value, e
}

// Place returns the place of the next token.
func (r *Reader) Place() Place {
	if r.none() {
		return Place{}
	}
	if len(r.tokens) == 0 {
		return r.end
	}
	return r.tokens[0].Place
}

// Rest yields the tokens that have not been passed.
func (r *Reader) Rest() iter.Seq[Token] {
	if r.none() {
		return slices.Values([]Token(nil))
	}
	return slices.Values(r.tokens)
}

func (r *Reader) none() bool { return r == nil || r.end.Line == 0 }

// pass passes the next token if it is one that is wanted.
func (r *Reader) pass(wanted func(Token) bool) (Token, api.Errno) {
	t, e := r.Peek()
	if e != api.OK {
		return Token{}, e
	}
	if !wanted(t) {
		return Token{}, api.ErrFormat
	}
	r.tokens = r.tokens[1:]
	return t, api.OK
}
