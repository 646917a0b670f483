package source_test

import (
	"math"
	"slices"
	"testing"

	"phrasebook/api"
	"phrasebook/source"
)

// made returns an open source.
func made(t *testing.T, limit int, b ...byte) *source.Source {
	t.Helper()
	s, e := source.New(limit)
	if e != api.OK || s == nil {
		t.Fatalf("New(%d): code %d", limit, e)
	}
	if e := s.Feed(b); e != api.OK {
		t.Fatalf("Feed(% x): code %d", b, e)
	}
	return s
}

// ended returns a closed source.
func ended(t *testing.T, limit int, b ...byte) *source.Source {
	t.Helper()
	s := made(t, limit, b...)
	if e := s.Close(); e != api.OK {
		t.Fatalf("Close: code %d", e)
	}
	return s
}

// held returns the buffer.
func held(s *source.Source) []byte {
	var b []byte
	for piece := range s.Chunks(3) {
		b = append(b, piece...)
	}
	return b
}

// state fails if a source is not in a state.
func state(t *testing.T, s *source.Source, name string, limit, offset int, closed bool, b ...byte) {
	t.Helper()
	if !slices.Equal(held(s), b) || s.Left() != len(b) || s.Room() != limit-len(b) || s.Offset() != offset {
		t.Errorf("%s: buffer % x, %d left, room %d, offset %d; want % x, limit %d, offset %d", name, held(s), s.Left(), s.Room(), s.Offset(), b, limit, offset)
	}
	if s.Ended() != (closed && len(b) == 0) {
		t.Errorf("%s: Ended is %v", name, s.Ended())
	}
	// Whether it is closed shows in a chunk that is empty, which changes nothing.
	want := api.OK
	if closed {
		want = api.ErrState
	}
	if e := s.Feed(nil); e != want {
		t.Errorf("%s: feeding nothing: code %d, want %d", name, e, want)
	}
}

// call is a call of a source, with its results.
type call struct {
	name string
	do   func(*source.Source) ([]byte, api.Errno)
	want []byte
	code api.Errno
}

func feed(b ...byte) func(*source.Source) ([]byte, api.Errno) {
	return func(s *source.Source) ([]byte, api.Errno) { return nil, s.Feed(b) }
}

func shut(s *source.Source) ([]byte, api.Errno) { return nil, s.Close() }

func peek(n int) func(*source.Source) ([]byte, api.Errno) {
	return func(s *source.Source) ([]byte, api.Errno) { return s.Peek(n) }
}

func take(n int) func(*source.Source) ([]byte, api.Errno) {
	return func(s *source.Source) ([]byte, api.Errno) { return s.Take(n) }
}

func skip(n int) func(*source.Source) ([]byte, api.Errno) {
	return func(s *source.Source) ([]byte, api.Errno) { return nil, s.Skip(n) }
}

func until(end byte, most int) func(*source.Source) ([]byte, api.Errno) {
	return func(s *source.Source) ([]byte, api.Errno) { return s.Until(end, most) }
}

// run makes calls of a source.
func run(t *testing.T, s *source.Source, calls ...call) {
	t.Helper()
	for i, c := range calls {
		b, e := c.do(s)
		if e != c.code || !slices.Equal(b, c.want) {
			t.Errorf("call %d, %s: % x, code %d; want % x, code %d", i, c.name, b, e, c.want, c.code)
		}
		if e != api.OK && b != nil {
			t.Errorf("call %d, %s: bytes that are not nil with code %d", i, c.name, e)
		}
	}
}

func TestExamples(t *testing.T) {
	s := made(t, 4)
	run(t, s,
		call{"Feed(1 2 3)", feed(1, 2, 3), nil, api.OK},
		call{"Feed(4 5)", feed(4, 5), nil, api.ErrFull},
		call{"Take(2)", take(2), []byte{1, 2}, api.OK},
		call{"Feed(4 5)", feed(4, 5), nil, api.OK},
	)
	if s.Left() != 3 || s.Offset() != 2 || s.Room() != 1 {
		t.Error(s.Left(), s.Offset(), s.Room())
	}
	run(t, s,
		call{"Peek(4)", peek(4), nil, api.ErrShort},
		call{"Peek(5)", peek(5), nil, api.ErrRange},
		call{"Until(5, 3)", until(5, 3), []byte{3, 4}, api.OK},
	)
	if s.Offset() != 5 {
		t.Error(s.Offset())
	}
	run(t, s,
		call{"Feed(9)", feed(9), nil, api.OK},
		call{"Close", shut, nil, api.OK},
		call{"Until(5, 3)", until(5, 3), nil, api.ErrNone},
		call{"Until(5, 0)", until(5, 0), nil, api.ErrLong},
		call{"Feed(1)", feed(1), nil, api.ErrState},
		call{"Take(1)", take(1), []byte{9}, api.OK},
	)
	if !s.Ended() {
		t.Error("not ended")
	}
}

func TestNew(t *testing.T) {
	for _, limit := range []int{1, 2, 1000, source.MaxLimit - 1, source.MaxLimit} {
		state(t, made(t, limit), "new", limit, 0, false)
	}
	for _, limit := range []int{0, -1, source.MaxLimit + 1, math.MaxInt, math.MinInt} {
		if s, e := source.New(limit); s != nil || e != api.ErrArg {
			t.Errorf("New(%d): %v, code %d", limit, s, e)
		}
	}
	if source.MaxLimit != 1048576 {
		t.Error(source.MaxLimit)
	}
	s, o := made(t, 4), made(t, 4)
	s.Feed([]byte{1})
	s.Close()
	state(t, o, "another new one", 4, 0, false)
}

func TestFeed(t *testing.T) {
	s := made(t, 4)
	for _, c := range []struct {
		chunk []byte
		code  api.Errno
		want  []byte
	}{
		{nil, api.OK, nil},
		{[]byte{}, api.OK, nil},
		{[]byte{1, 2, 3, 4, 5}, api.ErrFull, nil},
		{[]byte{1, 2}, api.OK, []byte{1, 2}},
		{nil, api.OK, []byte{1, 2}},
		{[]byte{3, 4, 5}, api.ErrFull, []byte{1, 2}},
		{[]byte{3}, api.OK, []byte{1, 2, 3}},
		{[]byte{4, 5}, api.ErrFull, []byte{1, 2, 3}},
		{[]byte{4}, api.OK, []byte{1, 2, 3, 4}},
		{[]byte{5}, api.ErrFull, []byte{1, 2, 3, 4}},
		{nil, api.OK, []byte{1, 2, 3, 4}},
		{[]byte{}, api.OK, []byte{1, 2, 3, 4}},
	} {
		if e := s.Feed(c.chunk); e != c.code {
			t.Errorf("Feed(% x): code %d, want %d", c.chunk, e, c.code)
		}
		state(t, s, "fed", 4, 0, false, c.want...)
	}
	s.Skip(3)
	run(t, s, call{"4 bytes", feed(5, 6, 7, 8), nil, api.ErrFull}, call{"3 bytes", feed(5, 6, 7), nil, api.OK})
	state(t, s, "fed again", 4, 3, false, 4, 5, 6, 7)
}

func TestFeedTheGreatestLimit(t *testing.T) {
	whole := make([]byte, source.MaxLimit)
	for i := range whole {
		whole[i] = byte(i * 7)
	}
	s := made(t, source.MaxLimit)
	if e := s.Feed(append(slices.Clone(whole), 0)); e != api.ErrFull {
		t.Error(e)
	}
	state(t, s, "too many", source.MaxLimit, 0, false)
	if e := s.Feed(whole); e != api.OK {
		t.Error(e)
	}
	state(t, s, "full", source.MaxLimit, 0, false, whole...)
	if s.Feed([]byte{1}) != api.ErrFull || s.Feed(nil) != api.OK {
		t.Error("feeding a full source")
	}
	if b, e := s.Until(0, source.MaxLimit-1); len(b) != 0 || e != api.OK {
		t.Error(len(b), e)
	}
	if b, e := s.Take(source.MaxLimit); b != nil || e != api.ErrShort {
		t.Error(len(b), e)
	}
	s.Feed([]byte{9})
	if b, e := s.Take(source.MaxLimit); !slices.Equal(b, append(whole[1:], 9)) || e != api.OK {
		t.Error(len(b), e)
	}
	state(t, s, "taken", source.MaxLimit, source.MaxLimit+1, false)
}

func TestFeedKeepsNothing(t *testing.T) {
	chunk := append(make([]byte, 0, 8), 1, 2, 3)
	s := made(t, 8, chunk...)
	if e := s.Feed(chunk); e != api.OK {
		t.Fatal(e)
	}
	chunk[0] = 9
	state(t, s, "the chunk is changed", 8, 0, false, 1, 2, 3, 1, 2, 3)
	first := made(t, 8)
	first.Feed(chunk)
	first.Feed([]byte{4})
	if !slices.Equal(chunk, []byte{9, 2, 3}) || chunk[:4][3] != 0 {
		t.Error("the source wrote to its argument, or behind it")
	}
	chunk[1] = 9
	state(t, first, "the first chunk is changed", 8, 0, false, 9, 2, 3, 4)
}

func TestClose(t *testing.T) {
	s := made(t, 2, 1)
	run(t, s, call{"Close", shut, nil, api.OK})
	for range 2 {
		state(t, s, "closed", 2, 0, true, 1)
		run(t, s,
			call{"Close again", shut, nil, api.ErrState},
			call{"Feed", feed(2), nil, api.ErrState},
			call{"Feed of nothing", feed(), nil, api.ErrState},
			call{"Feed of too much", feed(2, 3), nil, api.ErrState},
		)
	}
	empty := ended(t, 2)
	state(t, empty, "closed and empty", 2, 0, true)
	run(t, empty, call{"Take(0)", take(0), nil, api.OK}, call{"Close again", shut, nil, api.ErrState})
	full := ended(t, 2, 1, 2)
	run(t, full, call{"Take(2)", take(2), []byte{1, 2}, api.OK}, call{"Feed", feed(1), nil, api.ErrState})
	state(t, full, "taken out", 2, 2, true)
}

func TestPeek(t *testing.T) {
	s := made(t, 4, 7, 8, 9)
	for n := range 4 {
		for range 2 {
			run(t, s, call{"Peek", peek(n), []byte{7, 8, 9}[:n], api.OK})
			state(t, s, "peeked", 4, 0, false, 7, 8, 9)
		}
	}
	s.Skip(2)
	run(t, s, call{"Peek(1)", peek(1), []byte{9}, api.OK}, call{"Peek(2)", peek(2), nil, api.ErrShort})
	state(t, s, "peeked", 4, 2, false, 9)
}

func TestTake(t *testing.T) {
	for n := range 5 {
		s := made(t, 4, 6, 7, 8, 9)
		run(t, s, call{"Take", take(n), []byte{6, 7, 8, 9}[:n], api.OK})
		state(t, s, "taken", 4, n, false, []byte{6, 7, 8, 9}[n:]...)
		run(t, s, call{"Take of the rest", take(4 - n), []byte{6, 7, 8, 9}[n:], api.OK})
		state(t, s, "taken", 4, 4, false)
	}
}

func TestSkip(t *testing.T) {
	for n := range 5 {
		s := made(t, 4, 6, 7, 8, 9)
		run(t, s, call{"Skip", skip(n), nil, api.OK})
		state(t, s, "skipped", 4, n, false, []byte{6, 7, 8, 9}[n:]...)
		run(t, s, call{"Skip of the rest", skip(4 - n), nil, api.OK})
		state(t, s, "skipped", 4, 4, false)
	}
}

// refused fails if a number is not refused with a code, or if that changes something.
func refused(t *testing.T, limit int, closed bool, b []byte, code api.Errno, numbers ...int) {
	t.Helper()
	s := made(t, limit, b...)
	if closed {
		s = ended(t, limit, b...)
	}
	for _, n := range numbers {
		run(t, s,
			call{"Peek", peek(n), nil, code},
			call{"Take", take(n), nil, code},
			call{"Skip", skip(n), nil, code},
		)
		state(t, s, "an error", limit, 0, closed, b...)
	}
}

func TestWrongNumbers(t *testing.T) {
	for _, limit := range []int{1, 4, source.MaxLimit} {
		for left := range min(limit, 4) + 1 {
			b := []byte{1, 2, 3, 4}[:left]
			for _, closed := range []bool{false, true} {
				refused(t, limit, closed, b, api.ErrArg, -1, -2, -limit, math.MinInt)
				refused(t, limit, closed, b, api.ErrRange, limit+1, limit+2, math.MaxInt)
			}
			if left < limit {
				refused(t, limit, false, b, api.ErrShort, left+1, limit)
				refused(t, limit, true, b, api.ErrNone, left+1, limit)
			}
		}
	}
}

func TestResultsAreTheCallers(t *testing.T) {
	s := made(t, 6, 1, 2, 3, 0, 4, 5)
	p, _ := s.Peek(2)
	q, _ := s.Peek(2)
	p[0] = 99
	_ = append(p, 98)
	if !slices.Equal(q, []byte{1, 2}) {
		t.Errorf("% x", q)
	}
	state(t, s, "what was peeked is changed", 6, 0, false, 1, 2, 3, 0, 4, 5)
	b, _ := s.Take(2)
	b[0], b[1] = 97, 96
	_ = append(b, 95, 94)
	state(t, s, "what was taken is changed", 6, 2, false, 3, 0, 4, 5)
	u, _ := s.Until(0, 1)
	u[0] = 93
	_ = append(u, 92, 91, 90)
	state(t, s, "what was taken is changed", 6, 4, false, 4, 5)
	s.Feed([]byte{6, 7, 8, 9})
	last, _ := s.Take(6)
	s.Feed([]byte{1, 1, 1, 1, 1, 1})
	if !slices.Equal(p, []byte{99, 2}) || !slices.Equal(q, []byte{1, 2}) || !slices.Equal(b, []byte{97, 96}) || !slices.Equal(u, []byte{93}) || !slices.Equal(last, []byte{4, 5, 6, 7, 8, 9}) {
		t.Errorf("later calls changed results: % x, % x, % x, % x, % x", p, q, b, u, last)
	}
}

func TestNoSource(t *testing.T) {
	for _, s := range []*source.Source{nil, {}} {
		for _, n := range []int{-1, 0, 1, source.MaxLimit, math.MaxInt, math.MinInt} {
			run(t, s,
				call{"Peek", peek(n), nil, api.ErrNil},
				call{"Take", take(n), nil, api.ErrNil},
				call{"Skip", skip(n), nil, api.ErrNil},
				call{"Until", until(0, n), nil, api.ErrNil},
			)
			for range s.Chunks(n) {
				t.Error("a chunk of no source")
			}
		}
		run(t, s,
			call{"Feed", feed(1), nil, api.ErrNil},
			call{"Feed of nothing", feed(), nil, api.ErrNil},
			call{"Close", shut, nil, api.ErrNil},
			call{"Close again", shut, nil, api.ErrNil},
		)
		if s.Left() != 0 || s.Room() != 0 || s.Offset() != 0 || s.Ended() || s.Copy() != nil {
			t.Error("there is something without a source")
		}
	}
}
