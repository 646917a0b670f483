package source_test

import (
	"math/rand"
	"slices"
	"testing"

	"phrasebook/api"
	"phrasebook/source"
)

// model is a source as all that was fed, of which the first bytes were taken.
type model struct {
	limit, offset int
	fed           []byte
	closed        bool
}

func (m *model) left() int { return len(m.fed) - m.offset }

func (m *model) feed(chunk []byte) api.Errno {
	if m.closed {
		return api.ErrState
	}
	if m.left()+len(chunk) > m.limit {
		return api.ErrFull
	}
	m.fed = append(m.fed, chunk...)
	return api.OK
}

func (m *model) close() api.Errno {
	if m.closed {
		return api.ErrState
	}
	m.closed = true
	return api.OK
}

func (m *model) missing() api.Errno {
	if m.closed {
		return api.ErrNone
	}
	return api.ErrShort
}

func (m *model) read(n, taken int) ([]byte, api.Errno) {
	if n < 0 {
		return nil, api.ErrArg
	}
	if n > m.limit {
		return nil, api.ErrRange
	}
	if n > m.left() {
		return nil, m.missing()
	}
	m.offset += taken
	return m.fed[m.offset-taken:][:n], api.OK
}

func (m *model) until(end byte, most int) ([]byte, api.Errno) {
	if most < 0 {
		return nil, api.ErrArg
	}
	if most >= m.limit {
		return nil, api.ErrRange
	}
	for i, b := range m.fed[m.offset:] {
		if i > most {
			return nil, api.ErrLong
		}
		if b == end {
			m.offset += i + 1
			return m.fed[m.offset-i-1:][:i], api.OK
		}
	}
	if m.left() > most {
		return nil, api.ErrLong
	}
	return nil, m.missing()
}

// step is a call, by numbers.
type step struct {
	kind, n int
	end     byte
	chunk   []byte
}

func (x step) call(s *source.Source) ([]byte, api.Errno) {
	switch x.kind {
	case 0:
		return nil, s.Feed(x.chunk)
	case 1:
		return nil, s.Close()
	case 2:
		return s.Peek(x.n)
	case 3:
		return s.Take(x.n)
	case 4:
		return nil, s.Skip(x.n)
	}
	return s.Until(x.end, x.n)
}

func (x step) model(m *model) ([]byte, api.Errno) {
	switch x.kind {
	case 0:
		return nil, m.feed(x.chunk)
	case 1:
		return nil, m.close()
	case 2:
		return m.read(x.n, 0)
	case 3:
		return m.read(x.n, x.n)
	case 4:
		_, e := m.read(x.n, x.n)
		return nil, e
	}
	return m.until(x.end, x.n)
}

// both makes a call of a source and of its model, and fails if they differ.
func both(t *testing.T, x step, s *source.Source, m *model) {
	t.Helper()
	b, e := x.call(s)
	want, code := x.model(m)
	if e != code || !slices.Equal(b, want) {
		t.Fatalf("%+v of %+v: % x, code %d; want % x, code %d", x, *m, b, e, want, code)
	}
	if s.Left() != m.left() || s.Room() != m.limit-m.left() || s.Offset() != m.offset || s.Ended() != (m.closed && m.left() == 0) {
		t.Fatalf("%+v: %d left, room %d, offset %d, ended %v; want %+v", x, s.Left(), s.Room(), s.Offset(), s.Ended(), *m)
	}
	if !slices.Equal(held(s), m.fed[m.offset:]) {
		t.Fatalf("%+v: % x; want % x", x, held(s), m.fed[m.offset:])
	}
}

func TestAllShortSequencesOfCalls(t *testing.T) {
	steps := []step{{kind: 0, chunk: []byte{1}}, {kind: 0, chunk: []byte{0, 1}}, {kind: 0}, {kind: 1}}
	for n := -1; n < 4; n++ {
		steps = append(steps, step{kind: 3, n: n}, step{kind: 5, n: n}, step{kind: 5, n: n, end: 1})
	}
	var search func(*source.Source, model, int)
	search = func(s *source.Source, m model, depth int) {
		if depth == 0 {
			return
		}
		for _, x := range steps {
			o, p := s.Copy(), m
			p.fed = slices.Clone(m.fed)
			both(t, x, o, &p)
			search(o, p, depth-1)
		}
	}
	for limit := 1; limit < 4; limit++ {
		search(made(t, limit), model{limit: limit}, 4)
	}
}

func TestLongSequencesOfCalls(t *testing.T) {
	random := rand.New(rand.NewSource(1))
	for range 200 {
		limit := 1 + random.Intn(30)
		s, m := made(t, limit), &model{limit: limit}
		for range 200 {
			x := step{kind: random.Intn(6), n: random.Intn(limit+4) - 1, end: byte(random.Intn(5))}
			if x.kind == 1 && random.Intn(30) > 0 {
				x.kind = 0
			}
			if x.kind == 0 {
				x.chunk = make([]byte, random.Intn(8))
				for i := range x.chunk {
					x.chunk[i] = byte(random.Intn(5))
				}
			}
			both(t, x, s, m)
		}
	}
}

// TestTakenIsTheBeginning collects what is taken, by all calls that take, and compares it with
// what was fed.
func TestTakenIsTheBeginning(t *testing.T) {
	random := rand.New(rand.NewSource(2))
	for range 100 {
		limit := 1 + random.Intn(20)
		s := made(t, limit)
		var fed, taken []byte
		for len(fed) < 500 {
			chunk := make([]byte, random.Intn(limit+2))
			random.Read(chunk)
			if s.Feed(chunk) == api.OK {
				fed = append(fed, chunk...)
			}
			n, end := random.Intn(limit), byte(random.Intn(256))
			if b, e := s.Take(n); e == api.OK {
				taken = append(taken, b...)
			}
			if b, e := s.Until(end, n); e == api.OK {
				taken = append(append(taken, b...), end)
			}
			ahead, _ := s.Peek(min(n, s.Left()))
			if s.Skip(n) == api.OK {
				taken = append(taken, ahead...)
			}
			if !slices.Equal(append(slices.Clone(taken), held(s)...), fed) || s.Offset() != len(taken) {
				t.Fatalf("taken % x, left % x, fed % x", taken, held(s), fed)
			}
		}
	}
}

func TestDivisionIntoChunks(t *testing.T) {
	random := rand.New(rand.NewSource(3))
	for range 300 {
		whole := make([]byte, random.Intn(40))
		for i := range whole {
			whole[i] = byte(random.Intn(6))
		}
		one, many := made(t, 40, whole...), made(t, 40)
		for at := 0; at < len(whole); {
			n := min(random.Intn(5), len(whole)-at)
			if e := many.Feed(whole[at : at+n]); e != api.OK {
				t.Fatal(e)
			}
			at += n
		}
		for k := range 30 {
			if k == 20 {
				one.Close()
				many.Close()
			}
			x := step{kind: 2 + random.Intn(4), n: random.Intn(12) - 1, end: byte(random.Intn(6))}
			a, e := x.call(one)
			b, f := x.call(many)
			if !slices.Equal(a, b) || e != f || one.Offset() != many.Offset() || one.Left() != many.Left() || one.Ended() != many.Ended() {
				t.Fatalf("%+v: % x, code %d; % x, code %d", x, a, e, b, f)
			}
			if !same(pieces(one.Chunks(3)), pieces(many.Chunks(3))) {
				t.Fatalf("% x, % x", held(one), held(many))
			}
		}
	}
}

// TestManyBytesThroughAFullBuffer takes longer than a test may if each call moves the buffer.
func TestManyBytesThroughAFullBuffer(t *testing.T) {
	s := made(t, source.MaxLimit, make([]byte, source.MaxLimit-1)...)
	for i := range 1 << 20 {
		if s.Feed([]byte{byte(i)}) != api.OK || s.Skip(1) != api.OK {
			t.Fatal(i)
		}
	}
	if b, e := s.Take(3); !slices.Equal(b, []byte{1, 2, 3}) || e != api.OK {
		t.Error(b, e)
	}
	if s.Offset() != 1<<20+3 {
		t.Error(s.Offset())
	}
}
