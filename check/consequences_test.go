package check_test

import (
	"math"
	"math/rand"
	"slices"
	"testing"

	"phrasebook/api"
	"phrasebook/check"
)

// join checks the result of joining.
func join(t *testing.T, first, second, length, want int) {
	t.Helper()
	if got, e := check.Join(first, second, length); got != want || e != api.OK {
		t.Errorf("Join(%X, %X, %d) = %X, code %d, not %X", first, second, length, got, e, want)
	}
}

func TestJoin(t *testing.T) {
	const last = 65520
	for _, c := range []struct{ first, second, length, want int }{
		{1, 1, 0, 1}, {0, 0, 0, last}, {0, 1, 0, 0}, {1, 0, 0, 0}, {2, 3, 0, 4}, {0, 2, 0, 1},
		// With a lower half 0, each byte of the second part counts -1.
		{0, 0, 1, last<<16 + last}, {0, 1, 1, last << 16}, {0, 1, 2, (last - 1) << 16}, {0, 1, last, 1 << 16}, {0, 1, last + 1, 0}, {0, 1, last + 2, last << 16},
		{3, 1, 5, 10<<16 + 3}, {3<<16 + 1, 4<<16 + 1, 9, 7<<16 + 1},
		// Halves that no Adler-32 has are reduced.
		{0xFFFF, 1, 0, 14}, {1, 0xFFFF, 0, 14}, {0xFFFFFFFF, 0xFFFFFFFF, 0, 28<<16 + 27}, {0xFFFF0001, 1, 0, 14<<16 + 1}, {0xFFF10001, 0x10001, 7, 1<<16 + 1},
		{last, 2, 0, 0}, {last, 1, 0, last}, {last, 3, 0, 1}, {last<<16 + 1, 1<<16 + 1, 3, 1},
	} {
		join(t, c.first, c.second, c.length, c.want)
	}
}

// TestJoinLongParts has lengths whose products have more bits than an int.
func TestJoinLongParts(t *testing.T) {
	for _, length := range []int{1 << 31, 1<<31 - 1, 1 << 40, 1 << 62, math.MaxInt, math.MaxInt - 1} {
		rest := length % 65521
		join(t, 2, 1, length, rest<<16+2)
		join(t, 0, 1, length, (65521-rest)%65521<<16)
		join(t, 0xFFFF, 1, length, (rest*13%65521)<<16+14)
		join(t, 0xFFF0, 1, length, (65521-rest*2%65521)%65521<<16+65520)
	}
}

func TestJoinErrors(t *testing.T) {
	bad := []int{-1, -2, -1 << 32, math.MinInt, 1 << 32, 1<<32 + 1, 1 << 62, math.MaxInt}
	good := []int{0, 1, 0xFFFF, 0x10000, 1<<32 - 1}
	for _, b := range bad {
		for _, g := range good {
			for _, c := range [][3]int{{b, g, 0}, {g, b, 0}, {b, b, 1}, {b, g, -1}, {g, b, -1}} {
				if sum, e := check.Join(c[0], c[1], c[2]); sum != 0 || e != api.ErrArg {
					t.Errorf("Join(%X, %X, %d) = %X, code %d", c[0], c[1], c[2], sum, e)
				}
			}
		}
	}
	for _, g := range good {
		for _, length := range []int{-1, -65521, math.MinInt} {
			if sum, e := check.Join(g, g, length); sum != 0 || e != api.ErrArg {
				t.Errorf("Join(%X, %X, %d) = %X, code %d", g, g, length, sum, e)
			}
		}
		if _, e := check.Join(g, g, 0); e != api.OK {
			t.Errorf("Join(%X, %X, 0): code %d", g, g, e)
		}
	}
}

func TestJoiningChecksumsOfParts(t *testing.T) {
	random := rand.New(rand.NewSource(3))
	part := func(n int) []byte {
		b := randomBytes(random, random.Intn(n))
		if random.Intn(3) == 0 {
			for i := range b {
				b[i] = 255
			}
		}
		return b
	}
	for i := range 1000 {
		n := 30
		if i%50 == 0 {
			n = 200000
		}
		a, b := part(n), part(n)
		join(t, of(t, 3, a), of(t, 3, b), len(b), of(t, 3, slices.Concat(a, b)))
	}
}

func TestChangesOfOneBit(t *testing.T) {
	random := rand.New(rand.NewSource(4))
	for i := range 150 {
		b := randomBytes(random, 1+random.Intn(30))
		if i%5 == 0 {
			clear(b)
		}
		for kind := 1; kind <= 3; kind++ {
			before := of(t, kind, b)
			for bit := range 8 * len(b) {
				b[bit/8] ^= 1 << (bit % 8)
				if of(t, kind, b) == before {
					t.Errorf("kind %d: bit %d of %x does not change %X", kind, bit, b, before)
				}
				b[bit/8] ^= 1 << (bit % 8)
			}
		}
	}
}

func TestBytesBehindTheirChecksum(t *testing.T) {
	random := rand.New(rand.NewSource(5))
	for i := range 1000 {
		b := randomBytes(random, random.Intn(30))
		for kind := 1; kind <= 2; kind++ {
			if kind == 1 && len(b)%2 == 1 {
				b = b[1:]
			}
			behind, e := check.Bytes(kind, of(t, kind, b))
			if got := of(t, kind, slices.Concat(b, behind)); got != 0 || e != api.OK {
				t.Errorf("%d, kind %d: %x and %x have %X", i, kind, b, behind, got)
			}
		}
	}
}

// TestSumsOfParts divides bytes in all ways.
func TestSumsOfParts(t *testing.T) {
	b := []byte{0xFF, 0, 1, 0x80, 0x7F, 0xFE, 0xFF, 3}
	for kind := 1; kind <= 3; kind++ {
		want := of(t, kind, b)
		for cuts := range 1 << (len(b) - 1) {
			s := begin(t, kind)
			at := 0
			for i := 1; i <= len(b); i++ {
				if i == len(b) || cuts>>(i-1)&1 == 1 {
					write(t, s, b[at:i])
					at = i
				}
			}
			is(t, s, want, len(b))
		}
	}
}
