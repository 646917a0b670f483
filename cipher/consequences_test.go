package cipher_test

import (
	"bytes"
	"math/rand"
	"slices"
	"testing"
)

func TestCombiningTwice(t *testing.T) {
	random := rand.New(rand.NewSource(7))
	for range 2000 {
		key, place, b := someWords(random, 1)[0], random.Intn(maxStream-200), randomBytes(random, random.Intn(200))
		if again := xor(t, key, place, xor(t, key, place, b)); !bytes.Equal(again, b) {
			t.Errorf("%d at %d: %x becomes %x", key, place, b, again)
		}
		s := begin(t, key)
		seek(t, s, place)
		once := next(t, s, b)
		seek(t, s, place)
		if again := next(t, s, once); !bytes.Equal(again, b) {
			t.Errorf("the stream of %d at %d: %x becomes %x", key, place, b, again)
		}
	}
}

// TestDividedBytes divides bytes around the border of a block in all ways.
func TestDividedBytes(t *testing.T) {
	b := []byte{0, 1, 0x80, 0x7F, 0xFE, 0xFF, 3, 0xFF, 9}
	for _, key := range []int{0, 1, lastWord} {
		for _, place := range []int{0, 58, 60, 63, 64, 123, maxStream - 9} {
			want := xor(t, key, place, b)
			for cuts := range 1 << (len(b) - 1) {
				s := begin(t, key)
				seek(t, s, place)
				at, got := 0, []byte{}
				for i := 1; i <= len(b); i++ {
					if i == len(b) || cuts>>(i-1)&1 == 1 {
						got = append(got, next(t, s, b[at:i])...)
						at = i
					}
				}
				if !bytes.Equal(got, want) {
					t.Errorf("%d at %d, cut at the bits of %b: %x, not %x", key, place, cuts, got, want)
				}
			}
		}
	}
}

func TestPiecesOfManyBytes(t *testing.T) {
	random := rand.New(rand.NewSource(8))
	for range 100 {
		key, place, b := someWords(random, 1)[0], random.Intn(1000), randomBytes(random, 2000)
		want := xor(t, key, place, b)
		s := begin(t, key)
		seek(t, s, place)
		stream, single := []byte{}, []byte{}
		for rest := b; len(rest) > 0; {
			n := random.Intn(min(len(rest), 200) + 1)
			single = append(single, xor(t, key, place+len(b)-len(rest), rest[:n])...)
			stream = append(stream, next(t, s, rest[:n])...)
			rest = rest[n:]
		}
		if !bytes.Equal(stream, want) || !bytes.Equal(single, want) {
			t.Errorf("%d at %d: %x and %x, not %x", key, place, stream, single, want)
		}
	}
}

// TestSingleBytes changes one byte, which changes the same bits of the same byte of the result.
func TestSingleBytes(t *testing.T) {
	random := rand.New(rand.NewSource(9))
	for _, key := range []int{0, 2, 1 << 31} {
		for _, place := range []int{0, 50, 64, maxStream - 130} {
			b := randomBytes(random, 130)
			want := xor(t, key, place, b)
			for i := range b {
				change := byte(1 + random.Intn(255))
				changed, expected := slices.Clone(b), slices.Clone(want)
				changed[i] ^= change
				expected[i] ^= change
				if got := xor(t, key, place, changed); !bytes.Equal(got, expected) {
					t.Errorf("%d at %d, byte %d: %x, not %x", key, place, i, got, expected)
				}
				if got := xor(t, key, place+i, b[i:i+1]); got[0] != want[i] {
					t.Errorf("%d at %d: the byte %x becomes %x, not %x", key, place+i, b[i], got, want[i])
				}
			}
		}
	}
}

// TestNumbersAndPlaces compares key streams, which differ between numbers and between places.
func TestNumbersAndPlaces(t *testing.T) {
	seen := map[string][2]int{}
	for _, key := range []int{1, 2, 3, 256, 1 << 16, 1 << 31, lastWord} {
		for _, place := range []int{0, 1, 32, 64, 64 << 8, 64 << 16, 64 << 31, maxStream - 16} {
			stream := string(xor(t, key, place, make([]byte, 16)))
			if other, found := seen[stream]; found {
				t.Errorf("%d at %d has the key stream of %v", key, place, other)
			}
			seen[stream] = [2]int{key, place}
		}
	}
}
