package varint_test

import (
	"encoding/hex"
	"math"
	"math/rand"
	"strconv"
	"testing"

	"phrasebook/api"
	"phrasebook/varint"
)

const (
	end    = api.MaxVarint // one more than the greatest integer
	signed = 1 << 34       // one more than the greatest signed integer
)

// unhex returns the bytes of a text of hexadecimal digits.
func unhex(t *testing.T, text string) []byte {
	t.Helper()
	b, err := hex.DecodeString(text)
	if err != nil {
		t.Fatal(err)
	}
	return b
}

// notIntegers are numbers without forms.
func notIntegers() []int {
	return []int{-1, -2, -128, -1 << 32, -end, -end - 1, end, end + 1, end + 127, 2 * end, 1 << 42, math.MaxInt - 1, math.MaxInt, math.MinInt + 1, math.MinInt}
}

// borders are the integers near those with which forms become longer.
func borders() []int {
	var l []int
	for bits := 0; bits <= 35; bits++ {
		for v := 1<<bits - 2; v <= 1<<bits+2; v++ {
			if v >= 0 && v < end {
				l = append(l, v)
			}
		}
	}
	return l
}

// randomInteger returns an integer of any number of bits.
func randomInteger(random *rand.Rand) int { return random.Intn(1 << (1 + random.Intn(35))) }

// model returns the form of an integer with a number of bytes, by way of binary digits, if there is one.
func model(v, n int) ([]byte, bool) {
	digits := strconv.FormatInt(int64(v), 2)
	for len(digits) < 7*n {
		digits = "0" + digits
	}
	if len(digits) > 7*n {
		return nil, false
	}
	var b []byte
	for i := n - 1; i >= 0; i-- {
		mark := "1"
		if i == 0 {
			mark = "0"
		}
		c, _ := strconv.ParseUint(mark+digits[7*i:7*i+7], 2, 8)
		b = append(b, byte(c))
	}
	return b, true
}

// modelForms returns all forms of an integer.
func modelForms(v int) [][]byte {
	var l [][]byte
	for n := 1; n <= 5; n++ {
		if b, found := model(v, n); found {
			l = append(l, b)
		}
	}
	return l
}

// modelRead returns what bytes begin with, as the chapter says it.
func modelRead(b []byte, loose bool) (value, length int, e api.Errno) {
	for i := 0; i < 5; i++ {
		if i == len(b) {
			return 0, 0, api.ErrShort
		}
		value += (int(b[i]) % 128) * int(math.Pow(2, float64(7*i)))
		if b[i] < 0x80 {
			if i > 0 && b[i] == 0 && !loose {
				return 0, 0, api.ErrFormat
			}
			return value, i + 1, api.OK
		}
	}
	return 0, 0, api.ErrFormat
}

// read checks what Read returns.
func read(t *testing.T, b []byte, loose bool, value, length int, e api.Errno) {
	t.Helper()
	if v, n, f := varint.Read(b, loose); v != value || n != length || f != e {
		t.Errorf("Read(%x, %v) = %d, %d, %d, not %d, %d, %d", b, loose, v, n, f, value, length, e)
	}
}

// texts hands on all byte strings of at most some bytes out of an alphabet.
func texts(alphabet []byte, most int, yield func([]byte)) {
	var grow func(b []byte)
	grow = func(b []byte) {
		yield(b)
		if len(b) == most {
			return
		}
		for _, c := range alphabet {
			grow(append(b[:len(b):len(b)], c))
		}
	}
	grow(nil)
}
