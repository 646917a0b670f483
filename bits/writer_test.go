package bits_test

import (
	"math"
	"slices"
	"testing"

	"phrasebook/api"
	"phrasebook/bits"
)

const maxBits = 8 * api.MaxLength

// call is a call of a method of a writer, with the code and the length that are wanted behind it.
type call struct {
	name string
	do   func(*bits.Writer) api.Errno
	code api.Errno
	len  int
}

func put(v, n int) func(*bits.Writer) api.Errno {
	return func(w *bits.Writer) api.Errno { return w.Put(v, n) }
}

func little(v, n int) func(*bits.Writer) api.Errno {
	return func(w *bits.Writer) api.Errno { return w.Little(v, n) }
}

func raw(b ...byte) func(*bits.Writer) api.Errno {
	return func(w *bits.Writer) api.Errno { return w.Bytes(b) }
}

func align(n int) func(*bits.Writer) api.Errno {
	return func(w *bits.Writer) api.Errno { return w.Align(n) }
}

// run makes calls of a writer; those with an error must leave its bytes as they are.
func run(t *testing.T, w *bits.Writer, calls []call) {
	t.Helper()
	for i, c := range calls {
		before := w.Out()
		if e := c.do(w); e != c.code || w.Len() != c.len {
			t.Errorf("call %d, %s: code %d, length %d; want %d, %d", i, c.name, e, w.Len(), c.code, c.len)
		}
		if c.code != api.OK && !slices.Equal(w.Out(), before) {
			t.Errorf("call %d, %s: an error changed % x to % x", i, c.name, before, w.Out())
		}
	}
}

// filled returns a writer with a number of bits 0, made of bytes and at most 7 bits.
func filled(t *testing.T, n int) *bits.Writer {
	t.Helper()
	w := bits.NewWriter()
	if e := w.Bytes(make([]byte, n/8)); e != api.OK {
		t.Fatal(e)
	}
	for range n % 8 {
		w.Put(0, 1)
	}
	if w.Len() != n {
		t.Fatalf("length %d, want %d", w.Len(), n)
	}
	return w
}

func TestWriterExample(t *testing.T) {
	w := bits.NewWriter()
	run(t, w, []call{
		{"Put(5, 3)", put(5, 3), api.OK, 3},
		{"Put(0, 33)", put(0, 33), api.ErrArg, 3},
		{"Put(8, 3)", put(8, 3), api.ErrArg, 3},
		{"Little(1, 2)", little(1, 2), api.ErrState, 3},
		{"Align(8)", align(8), api.OK, 8},
		{"Little(258, 2)", little(258, 2), api.OK, 24},
	})
	if b := w.Out(); !slices.Equal(b, []byte{0xa0, 0x02, 0x01}) {
		t.Errorf("% x", b)
	}
}

func TestPut(t *testing.T) {
	for _, c := range []struct {
		v, n int
		want []byte
	}{
		{0, 1, []byte{0x00}},
		{1, 1, []byte{0x80}},
		{1, 2, []byte{0x40}},
		{127, 7, []byte{0xfe}},
		{0xa5, 8, []byte{0xa5}},
		{0x1a5, 9, []byte{0xd2, 0x80}},
		{1, 32, []byte{0, 0, 0, 1}},
		{1<<31 + 2, 32, []byte{0x80, 0, 0, 2}},
		{1<<32 - 1, 32, []byte{255, 255, 255, 255}},
	} {
		w := bits.NewWriter()
		if e := w.Put(c.v, c.n); e != api.OK || w.Len() != c.n || !slices.Equal(w.Out(), c.want) {
			t.Errorf("Put(%d, %d): code %d, length %d, % x", c.v, c.n, e, w.Len(), w.Out())
		}
	}
}

func TestPutAcrossBytes(t *testing.T) {
	w := bits.NewWriter()
	run(t, w, []call{
		{"1 bit", put(1, 1), api.OK, 1},
		{"32 bits", put(0x12345678, 32), api.OK, 33},
		{"6 bits", put(33, 6), api.OK, 39},
		{"1 bit", put(1, 1), api.OK, 40},
	})
	if b := w.Out(); !slices.Equal(b, []byte{0x89, 0x1a, 0x2b, 0x3c, 0x43}) {
		t.Errorf("% x", b)
	}
}

func TestPutErrors(t *testing.T) {
	w := bits.NewWriter()
	run(t, w, []call{
		{"no bits", put(0, 0), api.ErrArg, 0},
		{"bits below 0", put(0, -1), api.ErrArg, 0},
		{"too many bits", put(0, 33), api.ErrArg, 0},
		{"most bits", put(0, math.MaxInt), api.ErrArg, 0},
		{"fewest bits", put(0, math.MinInt), api.ErrArg, 0},
		{"2 in 1 bit", put(2, 1), api.ErrArg, 0},
		{"a number below 0", put(-1, 32), api.ErrArg, 0},
		{"2^32 in 32 bits", put(1<<32, 32), api.ErrArg, 0},
		{"greatest number", put(math.MaxInt, 32), api.ErrArg, 0},
		{"least number", put(math.MinInt, 1), api.ErrArg, 0},
	})
}

func TestLittle(t *testing.T) {
	for _, c := range []struct {
		v, n int
		want []byte
	}{
		{0, 1, []byte{0}},
		{255, 1, []byte{255}},
		{1, 2, []byte{1, 0}},
		{1<<16 - 2, 2, []byte{0xfe, 0xff}},
		{0x123456, 3, []byte{0x56, 0x34, 0x12}},
		{1 << 31, 4, []byte{0, 0, 0, 0x80}},
		{1<<32 - 1, 4, []byte{255, 255, 255, 255}},
	} {
		w := filled(t, 8)
		if e := w.Little(c.v, c.n); e != api.OK || w.Len() != 8+8*c.n || !slices.Equal(w.Out()[1:], c.want) {
			t.Errorf("Little(%d, %d): code %d, length %d, % x", c.v, c.n, e, w.Len(), w.Out())
		}
	}
}

func TestLittleErrors(t *testing.T) {
	arguments := []call{
		{"no bytes", little(0, 0), api.ErrArg, 0},
		{"bytes below 0", little(0, -1), api.ErrArg, 0},
		{"5 bytes", little(0, 5), api.ErrArg, 0},
		{"most bytes", little(0, math.MaxInt), api.ErrArg, 0},
		{"2^61 bytes", little(0, 1<<61), api.ErrArg, 0},
		{"2^61 + 1 bytes", little(0, 1<<61+1), api.ErrArg, 0},
		{"256 in 1 byte", little(256, 1), api.ErrArg, 0},
		{"2^24 in 3 bytes", little(1<<24, 3), api.ErrArg, 0},
		{"2^32 in 4 bytes", little(1<<32, 4), api.ErrArg, 0},
		{"a number below 0", little(-1, 4), api.ErrArg, 0},
	}
	run(t, bits.NewWriter(), arguments)
	for n := 1; n < 8; n++ {
		w := filled(t, n)
		run(t, w, []call{
			{"not aligned", little(0, 1), api.ErrState, n},
			{"not aligned, 5 bytes", little(0, 5), api.ErrArg, n},
			{"not aligned, 256 in 1 byte", little(256, 1), api.ErrArg, n},
		})
	}
}

func TestBytes(t *testing.T) {
	w := bits.NewWriter()
	run(t, w, []call{
		{"none at first", raw(), api.OK, 0},
		{"two", raw(1, 0xff), api.OK, 16},
		{"8 bits", put(0x5a, 8), api.OK, 24},
		{"one", raw(0x80), api.OK, 32},
		{"none", raw(), api.OK, 32},
		{"4 bits", put(1, 4), api.OK, 36},
		{"none, not aligned", raw(), api.ErrState, 36},
		{"one, not aligned", raw(7), api.ErrState, 36},
	})
	if b := w.Out(); !slices.Equal(b, []byte{1, 0xff, 0x5a, 0x80, 0x10}) {
		t.Errorf("% x", b)
	}
}

func TestBytesKeepsNothing(t *testing.T) {
	w, b := bits.NewWriter(), []byte{1, 2, 3}
	w.Bytes(b)
	b[0] = 9
	w.Put(1, 1)
	if !slices.Equal(w.Out(), []byte{1, 2, 3, 0x80}) || !slices.Equal(b, []byte{9, 2, 3}) {
		t.Errorf("% x, % x", w.Out(), b)
	}
	spare := append(make([]byte, 0, 8), 1, 2, 3)
	v := bits.NewWriter()
	v.Bytes(spare)
	v.Put(255, 8)
	if spare[:4][3] != 0 {
		t.Error("the writer wrote behind its argument")
	}
}

func TestAlign(t *testing.T) {
	for _, c := range []struct{ at, n, want int }{
		{0, 1, 0}, {0, 8, 0}, {0, 4096, 0}, {1, 1, 1}, {1, 2, 2}, {2, 2, 2}, {3, 5, 5},
		{5, 3, 6}, {6, 3, 6}, {7, 8, 8}, {8, 8, 8}, {9, 8, 16}, {8, 24, 24}, {25, 24, 48},
		{1, 4095, 4095}, {1, 4096, 4096}, {4096, 4096, 4096}, {4097, 4096, 8192}, {4097, 4095, 8190},
	} {
		w := filled(t, c.at)
		if e := w.Align(c.n); e != api.OK || w.Len() != c.want || len(w.Out()) != (c.want+7)/8 {
			t.Errorf("Align(%d) at %d: code %d, length %d, want %d", c.n, c.at, e, w.Len(), c.want)
		}
	}
}

func TestAlignWritesZeros(t *testing.T) {
	w := bits.NewWriter()
	run(t, w, []call{
		{"3 bits", put(7, 3), api.OK, 3},
		{"to 5", align(5), api.OK, 5},
		{"3 bits", put(7, 3), api.OK, 8},
		{"to 24", align(24), api.OK, 24},
		{"1 bit", put(1, 1), api.OK, 25},
	})
	if b := w.Out(); !slices.Equal(b, []byte{0xe7, 0, 0, 0x80}) {
		t.Errorf("% x", b)
	}
}

func TestAlignErrors(t *testing.T) {
	w := filled(t, 3)
	for _, n := range []int{0, -1, -8, 4097, math.MaxInt, math.MinInt} {
		run(t, w, []call{{"Align", align(n), api.ErrArg, 3}})
	}
}

func TestWriterFull(t *testing.T) {
	run(t, filled(t, maxBits), []call{
		{"no bytes", raw(), api.OK, maxBits},
		{"a byte", raw(0), api.ErrFull, maxBits},
		{"a bit", put(1, 1), api.ErrFull, maxBits},
		{"no bits", put(0, 0), api.ErrArg, maxBits},
		{"2 in a bit", put(2, 1), api.ErrArg, maxBits},
		{"little", little(1, 1), api.ErrFull, maxBits},
		{"little of 5", little(1, 5), api.ErrArg, maxBits},
		{"to 4096", align(4096), api.OK, maxBits},
		{"to 4095", align(4095), api.ErrFull, maxBits},
		{"to 3", align(3), api.ErrFull, maxBits},
		{"to 0", align(0), api.ErrArg, maxBits},
	})
	run(t, filled(t, maxBits-1), []call{
		{"little, not aligned", little(0, 1), api.ErrState, maxBits - 1},
		{"bytes, not aligned", raw(make([]byte, api.MaxLength)...), api.ErrState, maxBits - 1},
		{"2 bits", put(3, 2), api.ErrFull, maxBits - 1},
		{"32 bits", put(3, 32), api.ErrFull, maxBits - 1},
		{"1 bit", put(1, 1), api.OK, maxBits},
		{"1 bit more", put(0, 1), api.ErrFull, maxBits},
	})
	run(t, filled(t, maxBits-16), []call{
		{"3 bytes", raw(0, 0, 0), api.ErrFull, maxBits - 16},
		{"little of 3", little(1, 3), api.ErrFull, maxBits - 16},
		{"little of 2", little(1, 2), api.OK, maxBits},
	})
	run(t, filled(t, maxBits-16), []call{
		{"2 bytes", raw(1, 2), api.OK, maxBits},
	})
	run(t, filled(t, maxBits-7), []call{
		{"to 8", align(8), api.OK, maxBits},
	})
	run(t, bits.NewWriter(), []call{
		{"too many bytes", raw(make([]byte, api.MaxLength+1)...), api.ErrFull, 0},
		{"as many as possible", raw(make([]byte, api.MaxLength)...), api.OK, maxBits},
	})
}

func TestNewWriter(t *testing.T) {
	w := bits.NewWriter()
	if w == nil || w.Len() != 0 || len(w.Out()) != 0 {
		t.Fatal("a new writer is not empty")
	}
	v := bits.NewWriter()
	v.Put(1, 1)
	if w.Len() != 0 {
		t.Error("writers share their bits")
	}
}

func TestOut(t *testing.T) {
	w := bits.NewWriter()
	for n := 1; n <= 17; n++ {
		w.Put(1, 1)
		want := []byte{0xff, 0xff, 0xff}[:(n+7)/8]
		want = slices.Clone(want)
		if n%8 != 0 {
			want[n/8] = 0xff << (8 - n%8)
		}
		if !slices.Equal(w.Out(), want) {
			t.Errorf("%d bits: % x, want % x", n, w.Out(), want)
		}
	}
	b := w.Out()
	b[0], b[2] = 0, 0
	if w.Out()[0] != 0xff || w.Out()[2] != 0x80 {
		t.Error("Out shares its memory")
	}
	b = w.Out()
	w.Put(127, 7)
	w.Bytes([]byte{1, 2, 3})
	if !slices.Equal(b, []byte{0xff, 0xff, 0x80}) {
		t.Errorf("% x changed with the writer", b)
	}
}

func TestWriterCopy(t *testing.T) {
	w := bits.NewWriter()
	w.Put(0xabc, 12)
	o := w.Copy()
	if o == w || o.Len() != 12 || !slices.Equal(o.Out(), []byte{0xab, 0xc0}) {
		t.Fatalf("length %d, % x", o.Len(), o.Out())
	}
	o.Put(15, 4)
	w.Put(1, 4)
	w.Bytes([]byte{1})
	o.Bytes([]byte{2, 3})
	if !slices.Equal(w.Out(), []byte{0xab, 0xc1, 1}) || !slices.Equal(o.Out(), []byte{0xab, 0xcf, 2, 3}) {
		t.Errorf("% x, % x", w.Out(), o.Out())
	}
	empty := bits.NewWriter().Copy()
	if empty == nil || empty.Put(1, 1) != api.OK || empty.Len() != 1 {
		t.Error("the copy of an empty writer is none")
	}
	if e := filled(t, maxBits).Copy().Put(0, 1); e != api.ErrFull {
		t.Error(e)
	}
}

func TestNoWriter(t *testing.T) {
	for _, w := range []*bits.Writer{nil, {}} {
		run(t, w, []call{
			{"Put", put(1, 1), api.ErrNil, 0},
			{"Put, wrong", put(9, 0), api.ErrNil, 0},
			{"Little", little(1, 1), api.ErrNil, 0},
			{"Little, wrong", little(1, 5), api.ErrNil, 0},
			{"Bytes", raw(1), api.ErrNil, 0},
			{"Bytes, none", raw(), api.ErrNil, 0},
			{"Bytes, too many", raw(make([]byte, api.MaxLength+1)...), api.ErrNil, 0},
			{"Align", align(8), api.ErrNil, 0},
			{"Align, wrong", align(0), api.ErrNil, 0},
		})
		if w.Len() != 0 || len(w.Out()) != 0 || w.Copy() != nil {
			t.Error("there is something without a writer")
		}
	}
}
