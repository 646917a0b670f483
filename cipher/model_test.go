package cipher_test

import (
	"encoding/binary"
	"math/rand"
	"testing"

	"phrasebook/cipher"
)

// The model goes back: it undoes the rounds of a block, and must come to the state that it was made of.

// turnBack rotates a word down, bit by bit.
func turnBack(word uint32, n int) uint32 {
	for range n {
		word = word/2 + word%2*(1<<31)
	}
	return word
}

// undoQuarter returns the words of which a quarter round made others, with its lines in reverse.
func undoQuarter(a, b, c, d uint32) (w, x, y, z uint32) {
	b = turnBack(b, 7) ^ c
	c -= d
	d = turnBack(d, 8) ^ a
	a -= b
	b = turnBack(b, 12) ^ c
	c -= d
	d = turnBack(d, 16) ^ a
	a -= b
	return a, b, c, d
}

// order are the words of the quarter rounds of a double round.
var order = [][4]int{
	{0, 4, 8, 12}, {1, 5, 9, 13}, {2, 6, 10, 14}, {3, 7, 11, 15},
	{0, 5, 10, 15}, {1, 6, 11, 12}, {2, 7, 8, 13}, {3, 4, 9, 14},
}

// modelState returns the words of a state.
func modelState(key, nonce []int, counter int) (s [16]uint32) {
	copy(s[:], []uint32{0x61707865, 0x3320646E, 0x79622D32, 0x6B206574})
	for i := range 8 {
		s[4+i] = uint32(key[i])
	}
	s[12] = uint32(counter)
	for i := range 3 {
		s[13+i] = uint32(nonce[i])
	}
	return s
}

// isBlock reports whether bytes are the block of a state.
func isBlock(b []byte, key, nonce []int, counter int) bool {
	if len(b) != 64 {
		return false
	}
	s := modelState(key, nonce, counter)
	var w [16]uint32
	for i := range w {
		w[i] = binary.LittleEndian.Uint32(b[4*i:]) - s[i]
	}
	for i := 80 - 1; i >= 0; i-- {
		q := order[i%8]
		w[q[0]], w[q[1]], w[q[2]], w[q[3]] = undoQuarter(w[q[0]], w[q[1]], w[q[2]], w[q[3]])
	}
	return w == s
}

// edges are words near the borders of bits and bytes.
var edges = []int{0, 1, 2, 0x7F, 0x80, 0xFF, 0x100, 0x7FFF, 0x8000, 0xFFFF, 0x10000, 0xFFFFFF, 0x1000000, 1<<31 - 1, 1 << 31, 1<<31 + 1, 1<<32 - 2, 1<<32 - 1}

// someWords returns words at random, some of them at the edges.
func someWords(random *rand.Rand, count int) []int {
	words := make([]int, count)
	for i := range words {
		words[i] = int(random.Uint32())
		if random.Intn(3) == 0 {
			words[i] = edges[random.Intn(len(edges))]
		}
	}
	return words
}

func TestQuarterIsUndone(t *testing.T) {
	random := rand.New(rand.NewSource(1))
	for range 100000 {
		v := someWords(random, 4)
		a, b, c, d := uint32(v[0]), uint32(v[1]), uint32(v[2]), uint32(v[3])
		w, x, y, z := cipher.Quarter(a, b, c, d)
		if p, q, r, s := undoQuarter(w, x, y, z); p != a || q != b || r != c || s != d {
			t.Fatalf("Quarter(%X, %X, %X, %X) = %X, %X, %X, %X", a, b, c, d, w, x, y, z)
		}
	}
}

func TestBlocksAreUndone(t *testing.T) {
	random := rand.New(rand.NewSource(2))
	for range 5000 {
		key, nonce, counter := someWords(random, 8), someWords(random, 3), someWords(random, 1)[0]
		if b := block(t, key, nonce, counter); !isBlock(b, key, nonce, counter) {
			t.Fatalf("Block(%X, %X, %X) = %x", key, nonce, counter, b)
		}
	}
}

// TestBlocksOfSingleWords has one word other than 0, at each place of a state.
func TestBlocksOfSingleWords(t *testing.T) {
	for place := range 12 {
		for _, word := range edges {
			all := make([]int, 12)
			all[place] = word
			key, nonce, counter := all[:8], all[9:], all[8]
			if b := block(t, key, nonce, counter); !isBlock(b, key, nonce, counter) {
				t.Errorf("Block(%X, %X, %X) = %x", key, nonce, counter, b)
			}
		}
	}
}
