package source_test

import (
	"iter"
	"math"
	"slices"
	"testing"

	"phrasebook/api"
	"phrasebook/source"
)

// pieces returns what an iterator yields.
func pieces(chunks iter.Seq[[]byte]) [][]byte {
	var all [][]byte
	for b := range chunks {
		all = append(all, b)
	}
	return all
}

func same(a, b [][]byte) bool { return slices.EqualFunc(a, b, slices.Equal[[]byte]) }

func TestChunks(t *testing.T) {
	for _, c := range []struct {
		buffer []byte
		size   int
		want   [][]byte
	}{
		{[]byte{1, 2, 3, 4, 5}, 1, [][]byte{{1}, {2}, {3}, {4}, {5}}},
		{[]byte{1, 2, 3, 4, 5}, 2, [][]byte{{1, 2}, {3, 4}, {5}}},
		{[]byte{1, 2, 3, 4}, 2, [][]byte{{1, 2}, {3, 4}}},
		{[]byte{1, 2, 3, 4, 5}, 4, [][]byte{{1, 2, 3, 4}, {5}}},
		{[]byte{1, 2, 3, 4, 5}, 5, [][]byte{{1, 2, 3, 4, 5}}},
		{[]byte{1, 2, 3, 4, 5}, 6, [][]byte{{1, 2, 3, 4, 5}}},
		{[]byte{1, 2, 3, 4, 5}, math.MaxInt, [][]byte{{1, 2, 3, 4, 5}}},
		{[]byte{1}, 1, [][]byte{{1}}},
		{[]byte{1}, 2, [][]byte{{1}}},
		{nil, 1, nil},
		{nil, math.MaxInt, nil},
		{[]byte{1, 2, 3}, 0, nil},
		{[]byte{1, 2, 3}, -1, nil},
		{[]byte{1, 2, 3}, math.MinInt, nil},
		{nil, 0, nil},
	} {
		s := made(t, 9, append([]byte{7, 8}, c.buffer...)...)
		s.Skip(2)
		for range 2 {
			if all := pieces(s.Chunks(c.size)); !same(all, c.want) {
				t.Errorf("% x in pieces of %d: % x", c.buffer, c.size, all)
			}
		}
		if b, e := s.Peek(len(c.buffer)); !slices.Equal(b, c.buffer) || e != api.OK || s.Left() != len(b) || s.Offset() != 2 {
			t.Errorf("Chunks took something: % x, code %d", b, e)
		}
		s.Close()
		if all := pieces(s.Chunks(c.size)); !same(all, c.want) {
			t.Errorf("% x in pieces of %d, closed: % x", c.buffer, c.size, all)
		}
	}
}

func TestChunksOfTheGreatestLimit(t *testing.T) {
	s := made(t, source.MaxLimit, make([]byte, source.MaxLimit)...)
	for _, c := range []struct{ size, n, last int }{
		{1, source.MaxLimit, 1}, {source.MaxLimit, 1, source.MaxLimit}, {source.MaxLimit - 1, 2, 1}, {1000, 1049, 576},
	} {
		n, last := 0, 0
		for b := range s.Chunks(c.size) {
			n, last = n+1, len(b)
		}
		if n != c.n || last != c.last {
			t.Errorf("pieces of %d: %d, the last one of %d", c.size, n, last)
		}
	}
}

func TestChunksAtTheTimeOfTheCall(t *testing.T) {
	s := made(t, 5, 1, 2, 3)
	then := s.Chunks(2)
	want := [][]byte{{1, 2}, {3}}
	for i, change := range []func() api.Errno{
		func() api.Errno { return s.Feed([]byte{4, 5}) },
		func() api.Errno { return s.Skip(4) },
		func() api.Errno { return s.Feed([]byte{6, 7, 8, 9}) },
		func() api.Errno { return s.Skip(5) },
		s.Close,
	} {
		if e := change(); e != api.OK {
			t.Fatal(e)
		}
		if all := pieces(then); !same(all, want) {
			t.Errorf("change %d: % x", i, all)
		}
	}
	if all := pieces(s.Chunks(2)); len(all) != 0 {
		t.Errorf("% x", all)
	}
	empty := made(t, 5)
	nothing := empty.Chunks(2)
	empty.Feed([]byte{1})
	if all := pieces(nothing); len(all) != 0 {
		t.Errorf("% x", all)
	}
}

func TestChunksLeftEarly(t *testing.T) {
	s := made(t, 9, 1, 2, 3, 4, 5, 6, 7)
	chunks := s.Chunks(3)
	for stop := range 4 {
		var got [][]byte
		for b := range chunks {
			if len(got) == stop {
				break
			}
			got = append(got, b)
		}
		if want := [][]byte{{1, 2, 3}, {4, 5, 6}, {7}}[:stop]; !same(got, want) {
			t.Errorf("left after %d: % x", stop, got)
		}
	}
	n := 0
	chunks(func([]byte) bool { n++; return false })
	if n != 1 {
		t.Errorf("the loop went on %d times after it was left", n-1)
	}
	if all := pieces(chunks); !same(all, [][]byte{{1, 2, 3}, {4, 5, 6}, {7}}) {
		t.Errorf("% x", all)
	}
	state(t, s, "left early", 9, 0, false, 1, 2, 3, 4, 5, 6, 7)
}

func TestChunksInsideOfEachOther(t *testing.T) {
	s := made(t, 4, 1, 2, 3)
	chunks := s.Chunks(2)
	var got []byte
	for outer := range chunks {
		got = append(got, outer...)
		for inner := range chunks {
			got = append(got, inner...)
			inner[0] = 9
		}
	}
	if !slices.Equal(got, []byte{1, 2, 1, 2, 3, 3, 1, 2, 3}) {
		t.Errorf("% x", got)
	}
}

func TestChunksWhileTaking(t *testing.T) {
	s := made(t, 6, 1, 2, 3, 4, 5)
	for b := range s.Chunks(2) {
		taken, e := s.Take(len(b))
		if e != api.OK || !slices.Equal(b, taken) {
			t.Errorf("% x, % x, code %d", b, taken, e)
		}
		if e := s.Feed([]byte{9}); e != api.OK {
			t.Error(e)
		}
	}
	state(t, s, "taken", 6, 5, false, 9, 9, 9)
}

func TestChunksAreFresh(t *testing.T) {
	s := made(t, 8, 1, 2, 3, 4, 5)
	chunks := s.Chunks(2)
	want := [][]byte{{1, 2}, {3, 4}, {5}}
	for range 3 {
		var kept [][]byte
		for b := range chunks {
			if k := len(kept); k >= len(want) || !slices.Equal(b, want[k]) {
				t.Fatalf("piece %d: % x", k, b)
			}
			b[0] = 99
			_ = append(b, 98, 97)
			kept = append(kept, b)
		}
		if !same(kept, [][]byte{{99, 2}, {99, 4}, {99}}) {
			t.Errorf("% x", kept)
		}
	}
	state(t, s, "the pieces are changed", 8, 0, false, 1, 2, 3, 4, 5)
	s.Feed([]byte{6})
	state(t, s, "fed", 8, 0, false, 1, 2, 3, 4, 5, 6)
	first, second := pieces(chunks), pieces(chunks)
	first[0][0] = 99
	if !same(second, want) {
		t.Errorf("% x", second)
	}
}

func TestCopy(t *testing.T) {
	s := made(t, 4, 1, 2, 3)
	s.Skip(1)
	o := s.Copy()
	if o == s {
		t.Fatal("the copy is the source")
	}
	state(t, o, "the copy", 4, 1, false, 2, 3)
	run(t, s, call{"Feed(4)", feed(4), nil, api.OK}, call{"Take(2)", take(2), []byte{2, 3}, api.OK})
	run(t, o, call{"Feed(5 6)", feed(5, 6), nil, api.OK}, call{"Feed(7)", feed(7), nil, api.ErrFull})
	state(t, s, "the source", 4, 3, false, 4)
	state(t, o, "the copy", 4, 1, false, 2, 3, 5, 6)
	o.Close()
	run(t, s, call{"Feed(8)", feed(8), nil, api.OK}, call{"Peek(3)", peek(3), nil, api.ErrShort})
	o.Skip(4)
	state(t, s, "the source", 4, 3, false, 4, 8)
	state(t, o, "the copy", 4, 5, true)
	s.Close()
	closed := s.Copy()
	state(t, closed, "the copy of a closed one", 4, 3, true, 4, 8)
	run(t, closed, call{"Take(3)", take(3), nil, api.ErrNone}, call{"Take(5)", take(5), nil, api.ErrRange})
	state(t, made(t, 1).Copy(), "the copy of an empty one", 1, 0, false)
}

func TestCopiesBothGrow(t *testing.T) {
	// Room behind the bytes of a buffer must not be shared.
	for n := range 40 {
		s := made(t, 100)
		for i := range n {
			s.Feed([]byte{byte(i)})
		}
		o := s.Copy()
		s.Feed([]byte{200})
		o.Feed([]byte{201})
		a, _ := s.Take(n + 1)
		b, _ := o.Take(n + 1)
		if a[n] != 200 || b[n] != 201 || !slices.Equal(a[:n], b[:n]) {
			t.Fatalf("% x, % x", a, b)
		}
	}
}
