package check_test

import (
	"bytes"
	"math"
	"math/rand"
	"slices"
	"testing"

	"phrasebook/api"
	"phrasebook/check"
)

// bitsOf are the numbers of bits of the kinds 1 to 3.
var bitsOf = []int{1: 16, 2: 16, 3: 32}

// missing are kinds that do not exist.
var missing = []int{0, 4, 5, 7, 16, 255, 257, 1<<32 + 1, -1, -2, -3, math.MaxInt, math.MinInt}

// of returns a checksum that must not be an error, of bytes that must stay as they are.
func of(t *testing.T, kind int, b []byte) int {
	t.Helper()
	before := slices.Clone(b)
	sum, e := check.Of(kind, b)
	if e != api.OK || !bytes.Equal(b, before) {
		t.Fatalf("Of(%d, %x): code %d, then %x", kind, before, e, b)
	}
	return sum
}

// begin returns a sum of a kind, of the bytes given.
func begin(t *testing.T, kind int, b ...byte) *check.Sum {
	t.Helper()
	s, e := check.New(kind)
	if s == nil || e != api.OK {
		t.Fatalf("New(%d) = %v, code %d", kind, s, e)
	}
	write(t, s, b)
	return s
}

// write adds bytes, which must stay as they are.
func write(t *testing.T, s *check.Sum, b []byte) {
	t.Helper()
	before := slices.Clone(b)
	if e := s.Write(b); e != api.OK || !bytes.Equal(b, before) {
		t.Fatalf("Write(%x): code %d, then %x", before, e, b)
	}
}

// is checks what a sum says of itself, twice.
func is(t *testing.T, s *check.Sum, want, length int) {
	t.Helper()
	for range 2 {
		sum, e := s.Sum()
		if sum != want || e != api.OK || s.Len() != length {
			t.Errorf("%X, code %d, of %d bytes, not %X of %d", sum, e, s.Len(), want, length)
		}
	}
}

func randomBytes(random *rand.Rand, n int) []byte {
	b := make([]byte, n)
	random.Read(b)
	return b
}

func TestExamples(t *testing.T) {
	text := []byte("123456789")
	for kind, want := range []int{1: 0xF62A, 2: 0x29B1, 3: 0x091E01DE} {
		if kind > 0 {
			if got := of(t, kind, text); got != want {
				t.Errorf("kind %d: %X, not %X", kind, got, want)
			}
			is(t, begin(t, kind, text...), want, 9)
		}
	}
	if a, b, c := of(t, 1, nil), of(t, 2, nil), of(t, 3, nil); a != 0xFFFF || b != 0xFFFF || c != 1 {
		t.Errorf("of no bytes: %X, %X, %X", a, b, c)
	}
	if n, e := check.Bits(3); n != 32 || e != api.OK {
		t.Errorf("Bits(3) = %d, code %d", n, e)
	}
	if n, e := check.Bits(4); n != 0 || e != api.ErrArg {
		t.Errorf("Bits(4) = %d, code %d", n, e)
	}
	if b, e := check.Bytes(2, 258); !bytes.Equal(b, []byte{1, 2}) || e != api.OK {
		t.Errorf("Bytes(2, 258) = %x, code %d", b, e)
	}
	if b, e := check.Bytes(2, 65536); b != nil || e != api.ErrArg {
		t.Errorf("Bytes(2, 65536) = %x, code %d", b, e)
	}
}

func TestBits(t *testing.T) {
	for kind := 1; kind <= 3; kind++ {
		if n, e := check.Bits(kind); n != bitsOf[kind] || e != api.OK {
			t.Errorf("Bits(%d) = %d, code %d", kind, n, e)
		}
	}
}

func TestKindsThatDoNotExist(t *testing.T) {
	for _, kind := range missing {
		if n, e := check.Bits(kind); n != 0 || e != api.ErrArg {
			t.Errorf("Bits(%d) = %d, code %d", kind, n, e)
		}
		if s, e := check.New(kind); s != nil || e != api.ErrArg {
			t.Errorf("New(%d) = %v, code %d", kind, s, e)
		}
		for _, b := range [][]byte{nil, {}, {1}, []byte("123456789")} {
			if sum, e := check.Of(kind, b); sum != 0 || e != api.ErrArg {
				t.Errorf("Of(%d, %x) = %X, code %d", kind, b, sum, e)
			}
		}
		for _, sum := range []int{0, 1, 0xFFFF, 1 << 32, -1} {
			if b, e := check.Bytes(kind, sum); len(b) > 0 || e != api.ErrArg {
				t.Errorf("Bytes(%d, %X) = %x, code %d", kind, sum, b, e)
			}
		}
	}
}

func TestOf(t *testing.T) {
	for _, c := range []struct {
		kind int
		text string
		want int
	}{
		{1, "\x00", 0xFFFF}, {1, "\x00\x00", 0xFFFF}, {1, "\x01", 0xFEFF}, {1, "\x00\x01", 0xFFFE}, {1, "\x01\x00", 0xFEFF},
		{1, "\xFF\xFF", 0}, {1, "\xFF\xFF\xFF\xFF", 0}, {1, "\xFF\xFF\x00\x00", 0}, {1, "\xFF", 0x00FF}, {1, "\xFF\xFF\xFF", 0x00FF},
		{1, "\xFF\xFF\x00\x01", 0xFFFE}, {1, "\x00\x01\xFF\xFF", 0xFFFE}, {1, "\xFF\xFE\x00\x01", 0}, {1, "\x80\x00\x80\x00", 0xFFFE}, {1, "\x80\x00\x80", 0xFFFE},
		{1, "\x45\x00\x00\x73\x00\x00\x40\x00\x40\x11\x00\x00\xC0\xA8\x00\x01\xC0\xA8\x00\xC7", 0xB861},
		{2, "\x00", 0xE1F0}, {2, "\xFF", 0xFF00}, {2, "A", 0xB915}, {2, "\x00\x00", 0x1D0F}, {2, "\xFF\xFF", 0}, {2, "\xFF\xFF\x00", 0}, {2, "\xFF\xFF\x01", 0x1021}, {2, "\xFF\xFF\x80", 0x9188},
		{3, "\x00", 0x00010001}, {3, "\x00\x00\x00", 0x00030001}, {3, "a", 0x00620062}, {3, "abc", 0x024D0127}, {3, "\xFF", 0x01000100}, {3, "\xFF\xFF", 0x02FF01FF}, {3, "Wikipedia", 0x11E60398},
	} {
		if got := of(t, c.kind, []byte(c.text)); got != c.want {
			t.Errorf("kind %d of %x: %X, not %X", c.kind, c.text, got, c.want)
		}
	}
}

// TestAdlerAtThePrime has sums that are 65520 to 65522 before they are reduced, in both numbers.
func TestAdlerAtThePrime(t *testing.T) {
	// 256 bytes 255 and a byte 239 to 241 sum up to 65519 to 65521.
	b := bytes.Repeat([]byte{255}, 256)
	for last, low := range map[byte]int{239: 65520, 240: 0, 241: 1} {
		if got := of(t, 3, append(slices.Clone(b), last)); got%65536 != low {
			t.Errorf("the lower bits are %d, not %d", got%65536, low)
		}
	}
	// With n bytes 0, the upper number is n.
	for _, n := range []int{65519, 65520, 65521, 65522} {
		if got := of(t, 3, make([]byte, n)); got != n%65521<<16+1 {
			t.Errorf("of %d bytes 0: %X", n, got)
		}
	}
}

func TestBytes(t *testing.T) {
	for _, c := range []struct {
		kind, sum int
		want      []byte
	}{
		{1, 0, []byte{0, 0}}, {1, 1, []byte{0, 1}}, {1, 0x1234, []byte{0x12, 0x34}}, {1, 0xFFFF, []byte{0xFF, 0xFF}},
		{2, 0, []byte{0, 0}}, {2, 256, []byte{1, 0}}, {2, 255, []byte{0, 255}}, {2, 0xFFFF, []byte{0xFF, 0xFF}},
		{3, 0, []byte{0, 0, 0, 0}}, {3, 0x12345678, []byte{0x12, 0x34, 0x56, 0x78}}, {3, 0xFFFF, []byte{0, 0, 0xFF, 0xFF}}, {3, 0x10000, []byte{0, 1, 0, 0}}, {3, 1<<32 - 1, []byte{0xFF, 0xFF, 0xFF, 0xFF}},
		{3, 0xFFF1FFF1, []byte{0xFF, 0xF1, 0xFF, 0xF1}},
	} {
		b, e := check.Bytes(c.kind, c.sum)
		if !bytes.Equal(b, c.want) || e != api.OK {
			t.Errorf("Bytes(%d, %X) = %x, code %d, not %x", c.kind, c.sum, b, e, c.want)
		}
		again, _ := check.Bytes(c.kind, c.sum)
		for i := range b {
			b[i]++
		}
		if b = append(b, 1, 2, 3); !bytes.Equal(again, c.want) {
			t.Errorf("Bytes(%d, %X) shares its memory", c.kind, c.sum)
		}
	}
	for kind := 1; kind <= 3; kind++ {
		end := 1 << bitsOf[kind]
		for _, sum := range []int{-1, -2, end, end + 1, 2 * end, 1 << 32, 1<<32 + 1, 1 << 62, -end, -end - 1, math.MaxInt, math.MinInt} {
			if b, e := check.Bytes(kind, sum); len(b) > 0 || e != api.ErrArg {
				t.Errorf("Bytes(%d, %X) = %x, code %d", kind, sum, b, e)
			}
		}
	}
}

func TestSums(t *testing.T) {
	for kind := 1; kind <= 3; kind++ {
		s := begin(t, kind)
		is(t, s, of(t, kind, nil), 0)
		write(t, s, nil)
		write(t, s, []byte{})
		is(t, s, of(t, kind, nil), 0)
		written := []byte{}
		for _, piece := range []string{"1", "", "23", "4", "56789", "\x00", "\xFF\xFF\xFF", ""} {
			write(t, s, []byte(piece))
			written = append(written, piece...)
			is(t, s, of(t, kind, written), len(written))
		}
	}
}

func TestWriteKeepsNoBytes(t *testing.T) {
	for kind := 1; kind <= 3; kind++ {
		b := []byte{1, 2, 3}
		s := begin(t, kind, b...)
		clear(b)
		write(t, s, []byte{4})
		is(t, s, of(t, kind, []byte{1, 2, 3, 4}), 4)
	}
}

func TestSumsAreIndependent(t *testing.T) {
	for kind := 1; kind <= 3; kind++ {
		for _, first := range []string{"", "1", "12", "123"} {
			s, other := begin(t, kind, []byte(first)...), begin(t, kind)
			c := s.Copy()
			is(t, c, of(t, kind, []byte(first)), len(first))
			write(t, s, []byte("ab"))
			is(t, c, of(t, kind, []byte(first)), len(first))
			write(t, c, []byte("xyz"))
			is(t, s, of(t, kind, []byte(first+"ab")), len(first)+2)
			is(t, c, of(t, kind, []byte(first+"xyz")), len(first)+3)
			is(t, other, of(t, kind, nil), 0)
			d := c.Copy()
			write(t, c, []byte{0})
			is(t, d, of(t, kind, []byte(first+"xyz")), len(first)+3)
		}
	}
}

func TestNoSum(t *testing.T) {
	for _, s := range []*check.Sum{nil, {}, new(check.Sum)} {
		for range 2 {
			if e := s.Write([]byte{1, 2}); e != api.ErrNil {
				t.Errorf("Write: code %d", e)
			}
			if e := s.Write(nil); e != api.ErrNil {
				t.Errorf("Write of nothing: code %d", e)
			}
			if sum, e := s.Sum(); sum != 0 || e != api.ErrNil {
				t.Errorf("Sum: %X, code %d", sum, e)
			}
			if n := s.Len(); n != 0 {
				t.Errorf("Len: %d", n)
			}
			if c := s.Copy(); c != nil {
				t.Errorf("Copy: %v", c)
			}
		}
	}
}

func TestRandomPieces(t *testing.T) {
	random := rand.New(rand.NewSource(2))
	for range 600 {
		kind := 1 + random.Intn(3)
		b := randomBytes(random, random.Intn(40))
		s := begin(t, kind)
		for at := 0; at < len(b); {
			next := at + random.Intn(len(b)-at+1)
			write(t, s, b[at:next])
			is(t, s, of(t, kind, b[:next]), next)
			if at = next; random.Intn(3) == 0 {
				write(t, s.Copy(), []byte{1})
				s = s.Copy()
			}
		}
		is(t, s, of(t, kind, b), len(b))
	}
}
