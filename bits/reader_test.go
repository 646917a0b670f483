package bits_test

import (
	"math"
	"slices"
	"strings"
	"testing"

	"phrasebook/api"
	"phrasebook/bits"
)

func reader(t *testing.T, b ...byte) *bits.Reader {
	t.Helper()
	r, e := bits.NewReader(b)
	if e != api.OK || r == nil {
		t.Fatal(e)
	}
	return r
}

// at returns a reader at a place.
func at(t *testing.T, place int, b ...byte) *bits.Reader {
	t.Helper()
	r := reader(t, b...)
	if e := r.Skip(place); e != api.OK || r.Place() != place {
		t.Fatal(e)
	}
	return r
}

// text returns the bits that are left as digits.
func text(r *bits.Reader) string {
	var s strings.Builder
	for bit := range r.Bits() {
		if bit {
			s.WriteByte('1')
		} else {
			s.WriteByte('0')
		}
	}
	return s.String()
}

// unchanged fails if a call with an error moved a reader.
func unchanged(t *testing.T, r *bits.Reader, place, total int) {
	t.Helper()
	if r.Place() != place || r.Left() != total-place {
		t.Errorf("place %d, %d left; want %d of %d", r.Place(), r.Left(), place, total)
	}
}

func TestReaderExample(t *testing.T) {
	r := reader(t, 0xa0, 0x02, 0x01)
	if v, e := r.Get(4); v != 10 || e != api.OK {
		t.Error(v, e)
	}
	if b, e := r.Take(1); b != nil || e != api.ErrState {
		t.Error(b, e)
	}
	if e := r.Pad(8); e != api.OK {
		t.Error(e)
	}
	if v, e := r.Little(2); v != 258 || e != api.OK {
		t.Error(v, e)
	}
	if v, e := r.Get(1); v != 0 || e != api.ErrShort {
		t.Error(v, e)
	}
	unchanged(t, r, 24, 24)
	s := reader(t, 0xa0)
	if e := s.Skip(1); e != api.OK {
		t.Error(e)
	}
	if e := s.Pad(8); e != api.ErrFormat {
		t.Error(e)
	}
	if e := s.Skip(8); e != api.ErrShort {
		t.Error(e)
	}
	if v, e := s.Get(7); v != 32 || e != api.OK {
		t.Error(v, e)
	}
}

func TestNewReader(t *testing.T) {
	for _, n := range []int{0, 1, api.MaxLength} {
		r, e := bits.NewReader(make([]byte, n))
		if e != api.OK || r.Left() != 8*n || r.Place() != 0 {
			t.Errorf("%d bytes: code %d, %d left", n, e, r.Left())
		}
	}
	if r, e := bits.NewReader(nil); e != api.OK || r == nil || r.Left() != 0 || r.Skip(0) != api.OK {
		t.Error("nil bytes are not none")
	}
	if r, e := bits.NewReader(make([]byte, api.MaxLength+1)); r != nil || e != api.ErrArg {
		t.Error(r, e)
	}
	b := []byte{1, 2}
	r := reader(t, b...)
	s, _ := bits.NewReader(b)
	b[0], b[1] = 9, 9
	if v, _ := s.Get(16); v != 258 {
		t.Errorf("%x: the reader kept its argument", v)
	}
	if v, _ := r.Get(16); v != 258 {
		t.Errorf("%x", v)
	}
}

func TestGet(t *testing.T) {
	b := []byte{0x89, 0x1a, 0x2b, 0x3c, 0x43}
	for _, c := range []struct{ place, n, want int }{
		{0, 1, 1}, {1, 1, 0}, {39, 1, 1}, {38, 2, 3}, {0, 7, 0x44}, {0, 8, 0x89}, {0, 9, 0x112},
		{1, 32, 0x12345678}, {0, 32, 0x891a2b3c}, {8, 32, 0x1a2b3c43}, {33, 6, 33}, {4, 16, 0x91a2},
	} {
		r := at(t, c.place, b...)
		if v, e := r.Get(c.n); v != c.want || e != api.OK {
			t.Errorf("Get(%d) at %d: %#x, code %d", c.n, c.place, v, e)
		}
		unchanged(t, r, c.place+c.n, 40)
	}
	if v, e := reader(t, 255, 255, 255, 255).Get(32); v != 1<<32-1 || e != api.OK {
		t.Error(v, e)
	}
}

func TestGetErrors(t *testing.T) {
	r := at(t, 3, 0xff, 0xff, 0xff, 0xff)
	for _, c := range []struct {
		n    int
		code api.Errno
	}{
		{0, api.ErrArg}, {-1, api.ErrArg}, {33, api.ErrArg}, {math.MaxInt, api.ErrArg}, {math.MinInt, api.ErrArg},
		{30, api.ErrShort}, {32, api.ErrShort},
	} {
		if v, e := r.Get(c.n); v != 0 || e != c.code {
			t.Errorf("Get(%d): %d, code %d", c.n, v, e)
		}
		unchanged(t, r, 3, 32)
	}
	if v, e := r.Get(29); v != 1<<29-1 || e != api.OK {
		t.Error(v, e)
	}
	if v, e := r.Get(33); v != 0 || e != api.ErrArg {
		t.Error(v, e)
	}
	if v, e := reader(t).Get(1); v != 0 || e != api.ErrShort {
		t.Error(v, e)
	}
}

func TestReadLittle(t *testing.T) {
	b := []byte{0x12, 0x34, 0x56, 0x78, 0xff}
	for _, c := range []struct{ place, n, want int }{
		{0, 1, 0x12}, {0, 2, 0x3412}, {0, 3, 0x563412}, {0, 4, 0x78563412}, {8, 4, 0xff785634}, {32, 1, 0xff},
	} {
		r := at(t, c.place, b...)
		if v, e := r.Little(c.n); v != c.want || e != api.OK {
			t.Errorf("Little(%d) at %d: %#x, code %d", c.n, c.place, v, e)
		}
		unchanged(t, r, c.place+8*c.n, 40)
	}
	if v, e := reader(t, 255, 255, 255, 255).Little(4); v != 1<<32-1 || e != api.OK {
		t.Error(v, e)
	}
}

func TestReadLittleErrors(t *testing.T) {
	for place := range 17 {
		r := at(t, place, 1, 2)
		for _, n := range []int{0, -1, 5, 1 << 61, 1<<61 + 1, math.MaxInt, math.MinInt} {
			if v, e := r.Little(n); v != 0 || e != api.ErrArg {
				t.Errorf("Little(%d) at %d: %d, code %d", n, place, v, e)
			}
		}
		want := api.ErrShort
		if place%8 != 0 {
			want = api.ErrState
		}
		if v, e := r.Little(3); v != 0 || e != want {
			t.Errorf("Little(3) at %d: %d, code %d", place, v, e)
		}
		unchanged(t, r, place, 16)
	}
}

func TestTake(t *testing.T) {
	r := reader(t, 1, 2, 3, 4)
	for _, c := range []struct {
		n     int
		want  []byte
		place int
	}{{0, nil, 0}, {1, []byte{1}, 8}, {2, []byte{2, 3}, 24}, {0, nil, 24}, {1, []byte{4}, 32}, {0, nil, 32}} {
		if b, e := r.Take(c.n); e != api.OK || !slices.Equal(b, c.want) {
			t.Errorf("Take(%d): % x, code %d", c.n, b, e)
		}
		unchanged(t, r, c.place, 32)
	}
	all := make([]byte, api.MaxLength)
	all[api.MaxLength-1] = 7
	r = reader(t, all...)
	if b, e := r.Take(api.MaxLength + 1); b != nil || e != api.ErrShort {
		t.Error(e)
	}
	if b, e := r.Take(api.MaxLength); e != api.OK || !slices.Equal(b, all) {
		t.Error(e)
	}
}

func TestTakeErrors(t *testing.T) {
	for place := range 17 {
		r := at(t, place, 1, 2)
		aligned := place%8 == 0
		for _, c := range []struct {
			n    int
			code api.Errno
		}{{-1, api.ErrArg}, {math.MinInt, api.ErrArg}, {3, api.ErrShort}, {math.MaxInt, api.ErrShort}, {1 << 61, api.ErrShort}} {
			want := c.code
			if want == api.ErrShort && !aligned {
				want = api.ErrState
			}
			if b, e := r.Take(c.n); b != nil || e != want {
				t.Errorf("Take(%d) at %d: % x, code %d", c.n, place, b, e)
			}
		}
		if b, e := r.Take(0); len(b) != 0 || (e == api.OK) != aligned || !aligned && e != api.ErrState {
			t.Errorf("Take(0) at %d: % x, code %d", place, b, e)
		}
		unchanged(t, r, place, 16)
	}
}

func TestTakeSharesNothing(t *testing.T) {
	r := reader(t, 1, 2, 3, 4)
	o, all := r.Copy(), r.Bits()
	b, _ := r.Take(2)
	b[0], b[1] = 9, 9
	_ = append(b, 9)
	if v, _ := r.Get(16); v != 0x0304 {
		t.Errorf("%#x", v)
	}
	if v, _ := o.Get(32); v != 0x01020304 {
		t.Errorf("%#x", v)
	}
	v := 0
	for bit := range all {
		v <<= 1
		if bit {
			v++
		}
	}
	if v != 0x01020304 {
		t.Errorf("%#x: the bits are those of the result", v)
	}
}

func TestSkip(t *testing.T) {
	r := reader(t, 1, 2)
	for _, c := range []struct {
		n     int
		code  api.Errno
		place int
	}{
		{0, api.OK, 0}, {3, api.OK, 3}, {-1, api.ErrArg, 3}, {math.MinInt, api.ErrArg, 3}, {14, api.ErrShort, 3},
		{math.MaxInt, api.ErrShort, 3}, {12, api.OK, 15}, {2, api.ErrShort, 15}, {1, api.OK, 16}, {0, api.OK, 16}, {1, api.ErrShort, 16},
	} {
		if e := r.Skip(c.n); e != c.code {
			t.Errorf("Skip(%d): code %d, want %d", c.n, e, c.code)
		}
		unchanged(t, r, c.place, 16)
	}
}

func TestPad(t *testing.T) {
	zeros := make([]byte, 1024)
	for _, c := range []struct{ place, n, want int }{
		{0, 1, 0}, {0, 8, 0}, {1, 1, 1}, {1, 2, 2}, {3, 5, 5}, {5, 3, 6}, {7, 8, 8}, {8, 8, 8}, {9, 8, 16},
		{8, 24, 24}, {1, 4095, 4095}, {1, 4096, 4096}, {4096, 4096, 4096}, {4097, 4096, 8192},
	} {
		r := at(t, c.place, zeros...)
		if e := r.Pad(c.n); e != api.OK {
			t.Errorf("Pad(%d) at %d: code %d", c.n, c.place, e)
		}
		unchanged(t, r, c.want, 8192)
	}
}

func TestPadLooksAtItsBits(t *testing.T) {
	for one := range 16 {
		for place := range 16 {
			b := []byte{0, 0}
			b[one/8] = 0x80 >> (one % 8)
			r := at(t, place, b...)
			end := (place + 4) / 5 * 5
			want, to := api.OK, end
			if end > 16 {
				want, to = api.ErrShort, place
			} else if one >= place && one < end {
				want, to = api.ErrFormat, place
			}
			if e := r.Pad(5); e != want {
				t.Errorf("bit %d, Pad(5) at %d: code %d, want %d", one, place, e, want)
			}
			unchanged(t, r, to, 16)
		}
	}
}

func TestPadErrors(t *testing.T) {
	r := at(t, 1, 0xff)
	for _, c := range []struct {
		n    int
		code api.Errno
	}{
		{0, api.ErrArg}, {-1, api.ErrArg}, {4097, api.ErrArg}, {math.MaxInt, api.ErrArg}, {math.MinInt, api.ErrArg},
		{9, api.ErrShort}, {16, api.ErrShort}, {4096, api.ErrShort}, {8, api.ErrFormat}, {2, api.ErrFormat}, {1, api.OK},
	} {
		if e := r.Pad(c.n); e != c.code {
			t.Errorf("Pad(%d): code %d, want %d", c.n, e, c.code)
		}
		unchanged(t, r, 1, 8)
	}
	if e := reader(t).Pad(4096); e != api.OK {
		t.Error(e)
	}
	whole := at(t, 8*api.MaxLength, make([]byte, api.MaxLength)...)
	if whole.Pad(4096) != api.OK || whole.Pad(4095) != api.ErrShort {
		t.Error("at the end of the longest bytes")
	}
}

func TestBits(t *testing.T) {
	for place, want := range []string{"1010000111111111", "010000111111111", "10000111111111", "0000111111111"} {
		if s := text(at(t, place, 0xa1, 0xff)); s != want {
			t.Errorf("at %d: %s", place, s)
		}
	}
	if s := text(at(t, 16, 0xa1, 0xff)); s != "" {
		t.Error(s)
	}
	if s := text(reader(t)); s != "" {
		t.Error(s)
	}
	n := 0
	for range reader(t, make([]byte, api.MaxLength)...).Bits() {
		n++
	}
	if n != 8*api.MaxLength {
		t.Error(n)
	}
}

func TestBitsAtTheTimeOfTheCall(t *testing.T) {
	r := at(t, 2, 0xa1)
	bitsThen := r.Bits()
	r.Skip(6)
	for range 2 {
		n, s := 0, ""
		for bit := range bitsThen {
			if n == 3 {
				break
			}
			n++
			s += map[bool]string{false: "0", true: "1"}[bit]
		}
		if s != "100" {
			t.Errorf("left early: %s", s)
		}
	}
	s := ""
	for bit := range bitsThen {
		r.Skip(0)
		s += map[bool]string{false: "0", true: "1"}[bit]
	}
	if s != "100001" {
		t.Error(s)
	}
	unchanged(t, r, 8, 8)
}

func TestBitsWhileReading(t *testing.T) {
	r := reader(t, 0xa5)
	s := ""
	for bit := range r.Bits() {
		v, e := r.Get(1)
		if e != api.OK || (v == 1) != bit {
			t.Error(v, e)
		}
		for inner := range r.Bits() {
			s += map[bool]string{false: "0", true: "1"}[inner]
			break
		}
	}
	if s != "0100101" || r.Left() != 0 {
		t.Error(s, r.Left())
	}
}

func TestReaderCopy(t *testing.T) {
	r := at(t, 4, 0x12, 0x34)
	o := r.Copy()
	if o == r {
		t.Fatal("the copy is the reader")
	}
	unchanged(t, o, 4, 16)
	o.Skip(8)
	unchanged(t, r, 4, 16)
	r.Skip(1)
	unchanged(t, o, 12, 16)
	if v, e := o.Get(4); v != 4 || e != api.OK {
		t.Error(v, e)
	}
	if v, e := r.Get(11); v != 0x234 || e != api.OK {
		t.Error(v, e)
	}
	empty := reader(t).Copy()
	if empty == nil || empty.Skip(0) != api.OK || empty.Skip(1) != api.ErrShort {
		t.Error("the copy of an empty reader is none")
	}
}

func TestNoReader(t *testing.T) {
	for _, r := range []*bits.Reader{nil, {}} {
		for _, n := range []int{-1, 0, 1, 8, 5000} {
			if v, e := r.Get(n); v != 0 || e != api.ErrNil {
				t.Error("Get", n, v, e)
			}
			if v, e := r.Little(n); v != 0 || e != api.ErrNil {
				t.Error("Little", n, v, e)
			}
			if b, e := r.Take(n); b != nil || e != api.ErrNil {
				t.Error("Take", n, b, e)
			}
			if e := r.Skip(n); e != api.ErrNil {
				t.Error("Skip", n, e)
			}
			if e := r.Pad(n); e != api.ErrNil {
				t.Error("Pad", n, e)
			}
		}
		if r.Left() != 0 || r.Place() != 0 || r.Copy() != nil || text(r) != "" {
			t.Error("there is something without a reader")
		}
	}
}
