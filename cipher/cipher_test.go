package cipher_test

import (
	"bytes"
	"encoding/hex"
	"math"
	"math/rand"
	"slices"
	"testing"

	"phrasebook/api"
	"phrasebook/cipher"
)

const (
	lastWord  = 1<<32 - 1
	maxStream = 1 << 38
)

// notWords are numbers that are no words.
var notWords = []int{-1, -2, -lastWord, math.MinInt, 1 << 32, 1<<32 + 1, 1 << 33, 1 << 62, math.MaxInt}

// block returns a block that must not be an error, of numbers that must stay as they are.
func block(t *testing.T, key, nonce []int, counter int) []byte {
	t.Helper()
	k, n := slices.Clone(key), slices.Clone(nonce)
	b, e := cipher.Block(key, nonce, counter)
	if e != api.OK || !slices.Equal(key, k) || !slices.Equal(nonce, n) {
		t.Fatalf("Block(%X, %X, %X): code %d, then %X, %X", k, n, counter, e, key, nonce)
	}
	return b
}

// xor returns bytes combined, which must not be an error, of bytes that must stay as they are.
func xor(t *testing.T, key, place int, b []byte) []byte {
	t.Helper()
	before := slices.Clone(b)
	out, e := cipher.Xor(key, place, b)
	if e != api.OK || !bytes.Equal(b, before) || len(out) != len(b) {
		t.Fatalf("Xor(%d, %d, %x) = %x, code %d, then %x", key, place, before, out, e, b)
	}
	return out
}

// begin returns a stream of a number.
func begin(t *testing.T, key int) *cipher.Stream {
	t.Helper()
	s, e := cipher.New(key)
	if s == nil || e != api.OK || s.Place() != 0 {
		t.Fatalf("New(%d) = %v, code %d", key, s, e)
	}
	return s
}

// next returns the next bytes of a stream, which must move behind them.
func next(t *testing.T, s *cipher.Stream, b []byte) []byte {
	t.Helper()
	before, place := slices.Clone(b), s.Place()
	out, e := s.Next(b)
	if e != api.OK || !bytes.Equal(b, before) || len(out) != len(b) || s.Place() != place+len(b) {
		t.Fatalf("Next(%x) at %d = %x, code %d, then %x at %d", before, place, out, e, b, s.Place())
	}
	return out
}

func seek(t *testing.T, s *cipher.Stream, place int) {
	t.Helper()
	if e := s.Seek(place); e != api.OK || s.Place() != place {
		t.Fatalf("Seek(%d): code %d, then at %d", place, e, s.Place())
	}
}

// combined returns bytes combined with bytes of blocks, one after the other.
func combined(t *testing.T, number, place int, b []byte) []byte {
	t.Helper()
	out := []byte{}
	blocks := map[int][]byte{}
	for i, c := range b {
		counter, offset := (place+i)/64, (place+i)%64
		if blocks[counter] == nil && number != 0 {
			blocks[counter] = block(t, slices.Repeat([]int{number}, 8), make([]int, 3), counter)
		}
		if number != 0 {
			c ^= blocks[counter][offset]
		}
		out = append(out, c)
	}
	return out
}

func randomBytes(random *rand.Rand, n int) []byte {
	b := make([]byte, n)
	random.Read(b)
	return b
}

func unhex(t *testing.T, text string) []byte {
	t.Helper()
	b, err := hex.DecodeString(text)
	if err != nil {
		t.Fatal(err)
	}
	return b
}

func TestQuarter(t *testing.T) {
	for _, c := range []struct{ words, want [4]uint32 }{
		{[4]uint32{0x11111111, 0x01020304, 0x9B8D6F43, 0x01234567}, [4]uint32{0xEA2A92F4, 0xCB1CF8CE, 0x4581472E, 0x5881C4BB}},
		{[4]uint32{0x516461B1, 0x2A5F714C, 0x53372767, 0x3D631689}, [4]uint32{0xBDB886DC, 0xCFACAFD2, 0xE46BEA80, 0xCCC07C79}},
		{[4]uint32{0, 0, 0, 0}, [4]uint32{0, 0, 0, 0}},
		{[4]uint32{0, 0, 0, 1}, [4]uint32{0x10000000, 0x80800808, 0x01010010, 0x01000010}},
	} {
		var got [4]uint32
		got[0], got[1], got[2], got[3] = cipher.Quarter(c.words[0], c.words[1], c.words[2], c.words[3])
		if got != c.want {
			t.Errorf("Quarter of %X is %X, not %X", c.words, got, c.want)
		}
	}
}

// TestBlock has the blocks of RFC 8439 (2.3.2 and A.1), and others made with a library for it.
func TestBlock(t *testing.T) {
	zeros, none := make([]int, 8), make([]int, 3)
	rising := []int{0x03020100, 0x07060504, 0x0B0A0908, 0x0F0E0D0C, 0x13121110, 0x17161514, 0x1B1A1918, 0x1F1E1D1C}
	for _, c := range []struct {
		key, nonce []int
		counter    int
		want       string
	}{
		{zeros, none, 0, "76b8e0ada0f13d90405d6ae55386bd28bdd219b8a08ded1aa836efcc8b770dc7da41597c5157488d7724e03fb8d84a376a43b8f41518a11cc387b669b2ee6586"},
		{zeros, none, 1, "9f07e7be5551387a98ba977c732d080dcb0f29a048e3656912c6533e32ee7aed29b721769ce64e43d57133b074d839d531ed1f28510afb45ace10a1f4b794d6f"},
		{[]int{0, 0, 0, 0, 0, 0, 0, 0x01000000}, none, 1, "3aeb5224ecf849929b9d828db1ced4dd832025e8018b8160b82284f3c949aa5a8eca00bbb4a73bdad192b5c42f73f2fd4e273644c8b36125a64addeb006c13a0"},
		{[]int{0xFF00, 0, 0, 0, 0, 0, 0, 0}, none, 2, "72d54dfbf12ec44b362692df94137f328fea8da73990265ec1bbbea1ae9af0ca13b25aa26cb4a648cb9b9d1be65b2c0924a66c54d545ec1b7374f4872e99f096"},
		{zeros, []int{0, 0, 0x02000000}, 0, "c2c64d378cd536374ae204b9ef933fcd1a8b2288b3dfa49672ab765b54ee27c78a970e0e955c14f3a88e741b97c286f75f8fc299e8148362fa198a39531bed6d"},
		{rising, []int{0x09000000, 0x4A000000, 0}, 1, "10f1e7e4d13b5915500fdd1fa32071c4c7d1f4c733c068030422aa9ac3d46c4ed2826446079faa0914c2d705d98b02a2b5129cd1de164eb9cbd083e8a2503c4e"},
		{slices.Repeat([]int{lastWord}, 8), slices.Repeat([]int{lastWord}, 3), lastWord, "d72b21cfa4b6b0c41d61f62b8a11159c6a4f63bc56c2035796c7ad37811121bbec56d54a530f3a933dd28a50feb23bfaf64f405be985f3718bdf4683e96be749"},
		{[]int{0x80000000, 0x80000001, 0x80000002, 0x80000003, 0x80000004, 0x80000005, 0x80000006, 0x80000007}, []int{0x11, 0x22000000, lastWord}, lastWord - 1, "5c4c2edf8dba8f19dc7ecee5716d9d7489b66fbd2681ad6115b23c12c7af073188b3ce472f0f9473e5f123d6daa0f23bb03888829a50369e9b31c10727dbfeef"},
	} {
		b := block(t, c.key, c.nonce, c.counter)
		if want := unhex(t, c.want); !bytes.Equal(b, want) {
			t.Errorf("Block(%X, %X, %X) = %x, not %x", c.key, c.nonce, c.counter, b, want)
		}
		for i := range b {
			b[i]++
		}
		if again := block(t, c.key, c.nonce, c.counter); !bytes.Equal(again, unhex(t, c.want)) {
			t.Errorf("Block(%X, %X, %X) shares its memory", c.key, c.nonce, c.counter)
		}
	}
}

func TestBlockErrors(t *testing.T) {
	refused := func(key, nonce []int, counter int) {
		t.Helper()
		if b, e := cipher.Block(key, nonce, counter); len(b) > 0 || e != api.ErrArg {
			t.Errorf("Block(%X, %X, %X) = %x, code %d", key, nonce, counter, b, e)
		}
	}
	for n := range 20 {
		if n != 8 {
			refused(make([]int, n), make([]int, 3), 0)
		}
		if n != 3 {
			refused(make([]int, 8), make([]int, n), 0)
		}
	}
	refused(nil, nil, 0)
	refused(make([]int, 3), make([]int, 8), 0)
	refused(make([]int, 7), make([]int, 4), 0)
	for _, bad := range notWords {
		for place := range 12 {
			all := make([]int, 12)
			all[place] = bad
			refused(all[:8], all[9:], all[8])
		}
	}
}

func TestXorExamples(t *testing.T) {
	if b := xor(t, 0, 5, []byte{1, 2, 3}); !bytes.Equal(b, []byte{1, 2, 3}) {
		t.Errorf("with the number 0: %x", b)
	}
	if b, e := cipher.Xor(1, cipher.MaxStream-2, []byte{1, 2, 3}); len(b) > 0 || e != api.ErrRange {
		t.Errorf("beyond the end: %x, code %d", b, e)
	}
	if b, e := cipher.Xor(-1, 0, nil); len(b) > 0 || e != api.ErrArg {
		t.Errorf("with the number -1: %x, code %d", b, e)
	}
	if cipher.MaxStream != maxStream {
		t.Errorf("MaxStream is %d", cipher.MaxStream)
	}
}

// TestKeyStreams has blocks made with another library.
func TestKeyStreams(t *testing.T) {
	for _, c := range []struct {
		key, place int
		want       string
	}{
		{1, 0, "1e2b9d880232d05cec68e13f71f878288265df91ba1d61a4113607ca969e36d679671a47d08aed3c42a58ad47bb1c08aebec8677024a845636fe7242a281794c"},
		{77, 0, "84b782399b9f72ae91641aacca5a922973b229e039be942d920b810d8881d25108c2b486fc8ab766eff0bf314e157c45b6ccfd207556babde36688fb7ff4913f"},
		{77, maxStream - 64, "cf75bbd2cc058942ab8fc979c66158498921a3b73ec91f4bffad0a311e13d064cd6f554affca54b6e22f8e6cef6e0ff13908417e9a99fbeb994c2165c2606f5e"},
		{lastWord, 0, "f6b898412f4ab061943167c1e23efaa2ba98e345a093f0b06da13bffdbd4b2c766dd107034b4582a2ef42c5e1ea475f2fea477a10a9f1d75b3635243b2506b32"},
	} {
		want := unhex(t, c.want)
		if b := xor(t, c.key, c.place, make([]byte, 64)); !bytes.Equal(b, want) {
			t.Errorf("%d at %d: %x, not %x", c.key, c.place, b, want)
		}
		for first := range 64 {
			for end := first; end <= 64; end++ {
				if b := xor(t, c.key, c.place+first, make([]byte, end-first)); !bytes.Equal(b, want[first:end]) {
					t.Errorf("%d at %d: %x, not %x", c.key, c.place+first, b, want[first:end])
				}
			}
		}
	}
}

// places are places around the borders of blocks, and at both ends.
var places = []int{0, 1, 2, 62, 63, 64, 65, 127, 128, 129, 6400, 64*256 - 1, 64*65536 - 3, 1<<31 - 5, 1 << 32, 64<<31 - 65, 1<<37 + 7, maxStream - 700}

func TestXor(t *testing.T) {
	random := rand.New(rand.NewSource(3))
	for _, key := range []int{0, 1, 2, 77, 255, 256, 0x12345678, 1 << 31, lastWord - 1, lastWord} {
		for _, place := range places {
			for _, n := range []int{0, 1, 2, 3, 61, 63, 64, 65, 127, 128, 129, 191, 300, 700} {
				b := randomBytes(random, n)
				if got, want := xor(t, key, place, b), combined(t, key, place, b); !bytes.Equal(got, want) {
					t.Errorf("Xor(%d, %d, %x) = %x, not %x", key, place, b, got, want)
				}
			}
		}
	}
	for range 2000 {
		key, place, b := someWords(random, 1)[0], random.Intn(maxStream-300), randomBytes(random, random.Intn(300))
		if got, want := xor(t, key, place, b), combined(t, key, place, b); !bytes.Equal(got, want) {
			t.Errorf("Xor(%d, %d, %x) = %x, not %x", key, place, b, got, want)
		}
	}
}

func TestXorOfManyBytes(t *testing.T) {
	b := randomBytes(rand.New(rand.NewSource(4)), 100003)
	for _, key := range []int{0, 5} {
		if got := xor(t, key, 61, b); !bytes.Equal(got, combined(t, key, 61, b)) {
			t.Errorf("with the number %d, %d bytes are wrong", key, len(b))
		}
	}
}

func TestXorHasItsOwnMemory(t *testing.T) {
	for _, key := range []int{0, 9} {
		s := begin(t, key)
		for _, n := range []int{1, 64, 100} {
			b := make([]byte, n, n+8)
			got, more := xor(t, key, 3, b), next(t, s, b)
			before := slices.Clone(got)
			for i := range b {
				b[i] = 0xAA
			}
			clear(more)
			if got = append(got, 1, 2, 3); !bytes.Equal(got[:n], before) || !bytes.Equal(b[:n+8][n:], make([]byte, 8)) {
				t.Errorf("with the number %d: the result shares its memory", key)
			}
			clear(got)
			if !bytes.Equal(b, bytes.Repeat([]byte{0xAA}, n)) {
				t.Errorf("with the number %d: the argument shares its memory", key)
			}
		}
	}
}

func TestXorErrors(t *testing.T) {
	refused := func(key, place, n int, want api.Errno) {
		t.Helper()
		if b, e := cipher.Xor(key, place, make([]byte, n)); len(b) > 0 || e != want {
			t.Errorf("Xor(%d, %d, %d bytes) = %x, code %d, not %d", key, place, n, b, e, want)
		}
	}
	beyond := []int{maxStream + 1, maxStream + 64, 2 * maxStream, 1 << 62, math.MaxInt - 1, math.MaxInt}
	for _, n := range []int{0, 1, 100} {
		for _, key := range notWords {
			for _, place := range append([]int{0, 1, -1, maxStream, math.MinInt}, beyond...) {
				refused(key, place, n, api.ErrArg)
			}
		}
		for _, key := range []int{0, 1, lastWord} {
			for _, place := range []int{-1, -2, -64, -maxStream, math.MinInt} {
				refused(key, place, n, api.ErrArg)
			}
			for _, place := range beyond {
				refused(key, place, n, api.ErrRange)
			}
			if n > 0 {
				refused(key, maxStream, n, api.ErrRange)
				refused(key, maxStream-n+1, n, api.ErrRange)
			}
			xor(t, key, maxStream-n, make([]byte, n))
		}
	}
}

func TestNewErrors(t *testing.T) {
	for _, key := range notWords {
		if s, e := cipher.New(key); s != nil || e != api.ErrArg {
			t.Errorf("New(%d) = %v, code %d", key, s, e)
		}
	}
}

func TestStreams(t *testing.T) {
	random := rand.New(rand.NewSource(5))
	for _, key := range []int{0, 1, 77, lastWord} {
		s := begin(t, key)
		place := 0
		for i := range 600 {
			if i%10 == 9 {
				place = places[random.Intn(len(places))]
				seek(t, s, place)
			}
			b := randomBytes(random, random.Intn(70))
			if got, want := next(t, s, b), combined(t, key, place, b); !bytes.Equal(got, want) {
				t.Errorf("%d at %d: %x becomes %x, not %x", key, place, b, got, want)
			}
			place += len(b)
		}
		if s.Place() != place {
			t.Errorf("at %d, not %d", s.Place(), place)
		}
	}
}

func TestNoBytes(t *testing.T) {
	for _, key := range []int{0, 8} {
		for _, place := range append([]int{maxStream - 1, maxStream}, places...) {
			s := begin(t, key)
			seek(t, s, place)
			next(t, s, nil)
			next(t, s, []byte{})
		}
	}
}

func TestTheEndOfStreams(t *testing.T) {
	for _, key := range []int{0, 3} {
		s := begin(t, key)
		for _, n := range []int{1, 2, 63, 64, 65, 200} {
			seek(t, s, maxStream-n)
			if b, e := s.Next(make([]byte, n+1)); len(b) > 0 || e != api.ErrRange || s.Place() != maxStream-n {
				t.Errorf("%d bytes at %d: %x, code %d, then at %d", n+1, maxStream-n, b, e, s.Place())
			}
			b := make([]byte, n)
			if got := next(t, s, b); !bytes.Equal(got, combined(t, key, maxStream-n, b)) {
				t.Errorf("the last %d bytes are %x", n, got)
			}
			if b, e := s.Next([]byte{1}); len(b) > 0 || e != api.ErrRange || s.Place() != maxStream {
				t.Errorf("at the end: %x, code %d, then at %d", b, e, s.Place())
			}
		}
	}
}

func TestSeekErrors(t *testing.T) {
	for _, key := range []int{0, 4} {
		s := begin(t, key)
		for _, place := range []int{0, 1, 63, 64, 100, maxStream - 100, maxStream} {
			seek(t, s, place)
			for _, bad := range []int{-1, -2, -64, -maxStream, math.MinInt} {
				if e := s.Seek(bad); e != api.ErrArg || s.Place() != place {
					t.Errorf("Seek(%d): code %d, then at %d", bad, e, s.Place())
				}
			}
			for _, bad := range []int{maxStream + 1, maxStream + 64, 1 << 40, 1 << 62, math.MaxInt} {
				if e := s.Seek(bad); e != api.ErrRange || s.Place() != place {
					t.Errorf("Seek(%d): code %d, then at %d", bad, e, s.Place())
				}
			}
		}
		seek(t, s, 100)
		s.Seek(-1)
		s.Seek(maxStream + 1)
		b := []byte{1, 2, 3}
		if got := next(t, s, b); !bytes.Equal(got, combined(t, key, 100, b)) {
			t.Errorf("after errors, at 100: %x", got)
		}
	}
}

func TestNoStreams(t *testing.T) {
	for i, s := range []*cipher.Stream{nil, {}, new(cipher.Stream)} {
		for _, b := range [][]byte{nil, {1}, make([]byte, 100)} {
			if out, e := s.Next(b); len(out) > 0 || e != api.ErrNil {
				t.Errorf("%d: Next = %x, code %d", i, out, e)
			}
		}
		for _, place := range []int{0, 1, -1, maxStream, maxStream + 1, math.MinInt, math.MaxInt} {
			if e := s.Seek(place); e != api.ErrNil || s.Place() != 0 {
				t.Errorf("%d: Seek(%d): code %d, then at %d", i, place, e, s.Place())
			}
		}
		if s.Copy() != nil {
			t.Errorf("%d: there is a copy", i)
		}
	}
}

func TestCopies(t *testing.T) {
	b := randomBytes(rand.New(rand.NewSource(6)), 150)
	for _, key := range []int{0, 6, lastWord} {
		s := begin(t, key)
		for _, place := range []int{0, 5, 64, maxStream - 150} {
			seek(t, s, place)
			o := s.Copy()
			if o == nil || o == s || o.Place() != place {
				t.Fatalf("%d at %d: the copy is at %d", key, place, o.Place())
			}
			want := combined(t, key, place, b)
			first := next(t, s, b)
			if o.Place() != place {
				t.Errorf("the copy of %d moves to %d", place, o.Place())
			}
			second := next(t, o, b)
			if !bytes.Equal(first, want) || !bytes.Equal(second, want) {
				t.Errorf("%d at %d: %x, of the copy %x, not %x", key, place, first, second, want)
			}
			seek(t, o, 1)
			if s.Place() != place+150 {
				t.Errorf("the stream at %d moves to %d with its copy", place+150, s.Place())
			}
		}
	}
}
