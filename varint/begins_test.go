package varint_test

import (
	"bytes"
	"maps"
	"math"
	"math/rand"
	"slices"
	"testing"

	"phrasebook/api"
	"phrasebook/varint"
)

// between returns a range.
func between(low, high int) api.Range { return api.Range{Low: low, High: high} }

// begins checks what Begins returns.
func begins(t *testing.T, b []byte, loose bool, r api.Range, want bool) {
	t.Helper()
	if is, e := varint.Begins(b, loose, r); is != want || e != api.OK {
		t.Errorf("Begins(%x, %v, %v) = %v, code %d", b, loose, r, is, e)
	}
}

func TestBegins(t *testing.T) {
	for _, c := range []struct {
		text          string
		low, high     int
		normal, loose bool
	}{
		{"ac", 300, 300, true, true}, {"ac", 44, 44, false, true}, {"ad", 300, 427, true, true},
		{"", 0, 0, true, true}, {"", 300, 300, true, true}, {"", end - 1, end - 1, true, true}, {"", 0, end - 1, true, true},
		{"00", 0, 0, true, true}, {"00", 0, 9, true, true}, {"00", 1, 9, false, false}, {"00", 128, 128, false, false}, {"00", 0, end - 1, true, true},
		{"05", 5, 5, true, true}, {"05", 6, 9, false, false}, {"05", 1, 4, false, false}, {"05", 133, 133, false, false}, {"05", 1, 5, true, true}, {"05", 5, 7, true, true},
		{"0500", 5, 5, false, false}, {"0501", 0, end - 1, false, false}, {"0580", 0, end - 1, false, false}, {"ac0200", 300, 300, false, false}, {"ac02ac02", 300, 300, false, false},
		{"80", 0, 0, false, true}, {"80", 0, 127, false, true}, {"80", 0, 128, true, true}, {"80", 1, 127, false, false}, {"80", 129, 255, false, false}, {"80", 129, 256, true, true},
		{"80", 128, 128, true, true}, {"ff", 128, 254, false, false}, {"ff", 127, 254, false, true}, {"ff", 128, 255, true, true}, {"ff", end - 1, end - 1, true, true}, {"fe", end - 1, end - 1, false, false},
		{"ad", 302, 428, false, false}, {"ad", 302, 429, true, true}, {"ad", 45, 172, false, true}, {"ad", 46, 172, false, false}, {"ad", 46, 173, true, true},
		{"8000", 0, 0, false, true}, {"8000", 1, 300, false, false}, {"8001", 128, 128, true, true}, {"8001", 0, 127, false, false}, {"8001", 129, end - 1, false, false}, {"8001", 0, end - 1, true, true},
		{"ac02", 300, 300, true, true}, {"ac82", 300, 300, false, true}, {"ac8200", 300, 300, false, true}, {"ac8200", 299, 299, false, false}, {"ac828000", 300, 300, false, true}, {"ac82808000", 300, 300, false, true}, {"ac8280808000", 300, 300, false, false},
		{"8080", 0, 16383, false, true}, {"8080", 0, 16384, true, true}, {"8080", 1, 16383, false, false}, {"8180", 1, 1, false, true}, {"8180", 2, 16384, false, false}, {"8180", 2, 16385, true, true},
		{"80808080", 0, 0, false, true}, {"80808080", 1, 1<<28 - 1, false, false}, {"80808080", 1, 1 << 28, true, true}, {"ffffffff", 1 << 28, end - 1, true, true}, {"ffffffff", end - 1, end - 1, true, true}, {"ffffffff", 1 << 28, end - 2, true, true}, {"ffffffff", end - 1<<28, end - 2, false, false},
		{"ffffffff7f", end - 1, end - 1, true, true}, {"ffffffff7f", 0, end - 2, false, false}, {"8080808001", 1 << 28, 1 << 28, true, true}, {"8080808000", 0, 0, false, true},
		{"8080808080", 0, end - 1, false, false}, {"ffffffffff", 0, end - 1, false, false}, {"808080808000", 0, end - 1, false, false}, {"ffffffffff7f", 0, end - 1, false, false}, {"80808080808080", 0, 0, false, false},
	} {
		b := unhex(t, c.text)
		begins(t, b, false, between(c.low, c.high), c.normal)
		begins(t, b, true, between(c.low, c.high), c.loose)
	}
}

func TestBeginsOfWrongRanges(t *testing.T) {
	wrong := []api.Range{
		between(-1, 5), between(-1, -1), between(-5, -7), between(0, -1), between(1, 0), between(5, 4), between(end-1, 0), between(0, end), between(end, end), between(5, math.MaxInt),
		between(math.MinInt, math.MaxInt), between(math.MinInt, 0), between(math.MinInt, math.MinInt), between(math.MaxInt, math.MaxInt), between(math.MaxInt, math.MinInt), between(end-1, end), between(end, 5), between(0, 1<<62),
	}
	for _, r := range wrong {
		for _, text := range []string{"", "00", "05", "80", "8000", "ffffffffff", "ac0200", "8080808080808080"} {
			for _, loose := range []bool{false, true} {
				if is, e := varint.Begins(unhex(t, text), loose, r); is || e != api.ErrArg {
					t.Errorf("Begins(%s, %v, %v) = %v, code %d", text, loose, r, is, e)
				}
			}
		}
	}
}

// modelBeginnings returns all beginnings of the allowed forms of the integers in a range, and these forms.
func modelBeginnings(r api.Range, loose bool) map[string]bool {
	found := map[string]bool{}
	for v := r.Low; v <= r.High; v++ {
		forms := modelForms(v)
		if !loose {
			forms = forms[:1]
		}
		for _, form := range forms {
			for n := range len(form) + 1 {
				found[string(form[:n])] = true
			}
		}
	}
	return found
}

// smallRanges returns ranges of few integers, most of them near those with which forms become longer.
func smallRanges(random *rand.Rand) []api.Range {
	var l []api.Range
	for _, v := range borders() {
		l = append(l, between(v, min(v+random.Intn(4), end-1)))
	}
	for _, v := range []int{0, 1, 127, 128, 16383, 16384, 1 << 21, 1<<28 - 1, 1 << 28, end - 1} {
		l = append(l, between(max(v-random.Intn(300), 0), v), between(v, min(v+random.Intn(300), end-1)))
	}
	for range 20 {
		v := randomInteger(random)
		l = append(l, between(v, min(v+random.Intn(300), end-1)))
	}
	return append(l, between(0, 20000), between(100, 17000))
}

func TestBeginsAsTheModel(t *testing.T) {
	random := rand.New(rand.NewSource(4))
	for _, r := range smallRanges(random) {
		for _, loose := range []bool{false, true} {
			model := modelBeginnings(r, loose)
			compare := func(b []byte) { begins(t, b, loose, r, model[string(b)]) }
			texts([]byte{0, 1, 0x7F, 0x80, 0xFF}, 4, compare)
			for _, text := range slices.Sorted(maps.Keys(model)) {
				b := []byte(text)
				compare(b)
				for range 2 {
					changed := append(slices.Clone(b), byte(random.Intn(256)))
					compare(changed)
					changed[random.Intn(len(changed))] ^= 1 << random.Intn(8)
					compare(changed)
				}
				if r.High-r.Low > 3 {
					continue
				}
				for c := range 256 {
					compare(append(slices.Clone(b), byte(c)))
				}
			}
		}
		if t.Failed() {
			return
		}
	}
}

// randomBytes returns bytes of which most belong to a form.
func randomBytes(random *rand.Rand) []byte {
	if random.Intn(2) == 0 {
		forms := modelForms(randomInteger(random))
		form := forms[random.Intn(len(forms))]
		return form[:random.Intn(len(form)+1)]
	}
	b := make([]byte, random.Intn(7))
	for i := range b {
		b[i] = []byte{0x80, 0xFF, byte(0x80 | random.Intn(128)), byte(random.Intn(256))}[random.Intn(4)]
	}
	return b
}

// A range is begun if one of its parts is, however wide it is.
func TestBeginsOfDividedRanges(t *testing.T) {
	random := rand.New(rand.NewSource(5))
	for range 200000 {
		low, high := randomInteger(random), randomInteger(random)
		low, high = min(low, high), max(low, high)
		b, loose := randomBytes(random), random.Intn(2) == 0
		whole, e := varint.Begins(b, loose, between(low, high))
		cut := low + random.Intn(high-low+1)
		first, f := varint.Begins(b, loose, between(low, cut))
		rest, g := false, api.OK
		if cut < high {
			rest, g = varint.Begins(b, loose, between(cut+1, high))
		}
		if whole != (first || rest) || e != api.OK || f != api.OK || g != api.OK {
			t.Fatalf("%x in %d to %d, divided behind %d: %v, %v and %v", b, low, high, cut, whole, first, rest)
		}
	}
}

// isForm reports whether bytes are an allowed form of an integer in a range.
func isForm(b []byte, loose bool, r api.Range) bool {
	v, n, e := varint.Read(b, loose)
	return e == api.OK && n == len(b) && v >= r.Low && v <= r.High
}

// goesOn reports whether bytes with one more are the beginning of an allowed form of an integer in a range.
func goesOn(t *testing.T, b []byte, loose bool, r api.Range) bool {
	found := false
	for c := range 256 {
		is, e := varint.Begins(append(slices.Clone(b), byte(c)), loose, r)
		if e != api.OK {
			t.Fatalf("%x %x in %v: code %d", b, c, r, e)
		}
		found = found || is
	}
	return found
}

// Bytes are a beginning if and only if they are a form, or a beginning with a further byte.
func TestBeginningsGoOn(t *testing.T) {
	random := rand.New(rand.NewSource(6))
	for range 20000 {
		low, high := randomInteger(random), randomInteger(random)
		if random.Intn(3) == 0 {
			high = min(low+random.Intn(1000), end-1)
		}
		r := between(min(low, high), max(low, high))
		b, loose := randomBytes(random), random.Intn(2) == 0
		is, e := varint.Begins(b, loose, r)
		form, on := isForm(b, loose, r), goesOn(t, b, loose, r)
		if is != (form || on) || form && on || e != api.OK {
			t.Fatalf("%x in %v, loose %v: %v, code %d, but form %v, goes on %v", b, r, loose, is, e, form, on)
		}
	}
}

// Whatever bytes of a range are chosen one after the other, a form of the range is reached.
func TestBeginningsReachForms(t *testing.T) {
	random := rand.New(rand.NewSource(7))
	for range 3000 {
		low, high := randomInteger(random), randomInteger(random)
		r := between(min(low, high), max(low, high))
		loose := random.Intn(2) == 0
		var b []byte
		for !isForm(b, loose, r) {
			var choices []byte
			for c := range 256 {
				if is, _ := varint.Begins(append(slices.Clone(b), byte(c)), loose, r); is {
					choices = append(choices, byte(c))
				}
			}
			if len(choices) == 0 || len(b) == 5 {
				t.Fatalf("no form of %v begins with %x", r, b)
			}
			b = append(b, choices[random.Intn(len(choices))])
		}
	}
}

func TestBeginsLeavesItsBytes(t *testing.T) {
	for _, text := range []string{"", "ac", "ac02", "ac0277", "80808080808080"} {
		b := unhex(t, text)
		for _, loose := range []bool{false, true} {
			varint.Begins(b, loose, between(0, end-1))
			varint.Read(b, loose)
		}
		if !bytes.Equal(b, unhex(t, text)) {
			t.Errorf("%s has become %x", text, b)
		}
	}
}
