package check_test

import (
	"hash/adler32"
	"math/big"
	"math/rand"
	"slices"
	"testing"
)

// modelOnes adds all numbers first, and the parts above 16 bits only then.
func modelOnes(b []byte) int {
	sum := 0
	for i, c := range b {
		if i%2 == 0 {
			sum += int(c) << 8
		} else {
			sum += int(c)
		}
	}
	for sum > 0xFFFF {
		sum = sum>>16 + sum&0xFFFF
	}
	return 0xFFFF - sum
}

// modelCRC divides polynomials: the bytes with 16 bits 0 behind them, of which the first 16 bits are inverted.
func modelCRC(b []byte) int {
	all := append(slices.Clone(b), 0, 0)
	all[0] ^= 0xFF
	all[1] ^= 0xFF
	p := new(big.Int).SetBytes(all)
	for p.BitLen() > 16 {
		p.Xor(p, new(big.Int).Lsh(big.NewInt(0x11021), uint(p.BitLen()-17)))
	}
	return int(p.Int64())
}

// models returns the checksums of the kinds 1 to 3.
func models(b []byte) []int {
	return []int{1: modelOnes(b), 2: modelCRC(b), 3: int(adler32.Checksum(b))}
}

func compare(t *testing.T, b []byte) {
	t.Helper()
	want := models(b)
	for kind := 1; kind <= 3; kind++ {
		if got := of(t, kind, b); got != want[kind] {
			t.Errorf("kind %d of %x: %X, not %X", kind, b, got, want[kind])
		}
	}
}

func TestShortBytes(t *testing.T) {
	compare(t, nil)
	for first := range 256 {
		compare(t, []byte{byte(first)})
		for second := 0; second < 256; second += 5 {
			compare(t, []byte{byte(first), byte(second)})
		}
	}
}

func TestRandomBytes(t *testing.T) {
	random := rand.New(rand.NewSource(1))
	for range 3000 {
		compare(t, randomBytes(random, random.Intn(60)))
	}
	for range 20 {
		compare(t, randomBytes(random, 3000+random.Intn(2000)))
	}
}

// TestLongBytes has sums of far more than 16 bits, and of 32 ones.
func TestLongBytes(t *testing.T) {
	for _, c := range []byte{0, 1, 0x80, 0xFE, 0xFF} {
		for _, n := range []int{256, 257, 258, 5552, 5553, 65536, 70001, 300000} {
			b := make([]byte, n)
			for i := range b {
				b[i] = c
			}
			if got, want := of(t, 1, b), modelOnes(b); got != want {
				t.Errorf("kind 1 of %d bytes %d: %X, not %X", n, c, got, want)
			}
			if got, want := of(t, 3, b), int(adler32.Checksum(b)); got != want {
				t.Errorf("kind 3 of %d bytes %d: %X, not %X", n, c, got, want)
			}
		}
	}
}
