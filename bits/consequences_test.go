package bits_test

import (
	"math"
	"math/rand"
	"slices"
	"strconv"
	"strings"
	"testing"

	"phrasebook/api"
	"phrasebook/bits"
)

// part is something that is written and read again.
type part struct {
	kind int // 0: a number, 1: a little number, 2: bytes, 3: up to a multiple of n bits
	v, n int
	b    []byte
}

// randomPart returns a part that may be written at a place.
func randomPart(random *rand.Rand, place int) part {
	kind := random.Intn(4)
	if place%8 != 0 && (kind == 1 || kind == 2) {
		kind = 0
	}
	switch kind {
	case 0:
		n := 1 + random.Intn(api.MaxBits)
		return part{kind: 0, n: n, v: random.Intn(1 << n)}
	case 1:
		n := 1 + random.Intn(4)
		return part{kind: 1, n: n, v: random.Intn(1 << (8 * n))}
	case 2:
		b := make([]byte, random.Intn(20))
		random.Read(b)
		return part{kind: 2, n: len(b), b: b}
	}
	return part{kind: 3, n: []int{1, 3, 8, 8, 16, 32, 37, 4096}[random.Intn(8)]}
}

func digits(v, n int) string {
	s := strconv.FormatInt(int64(v), 2)
	return strings.Repeat("0", n-len(s)) + s
}

// model returns the bits of a part at a place as digits, by way of texts only.
func (p part) model(place int) string {
	switch p.kind {
	case 0:
		return digits(p.v, p.n)
	case 1:
		s := ""
		for i := range p.n {
			s += digits(p.v>>(8*i)&255, 8)
		}
		return s
	case 2:
		s := ""
		for _, c := range p.b {
			s += digits(int(c), 8)
		}
		return s
	}
	n := 0
	for (place+n)%p.n != 0 {
		n++
	}
	return strings.Repeat("0", n)
}

func (p part) write(w *bits.Writer) api.Errno {
	switch p.kind {
	case 0:
		return w.Put(p.v, p.n)
	case 1:
		return w.Little(p.v, p.n)
	case 2:
		return w.Bytes(p.b)
	}
	return w.Align(p.n)
}

func (p part) read(r *bits.Reader) (int, []byte, api.Errno) {
	switch p.kind {
	case 0:
		v, e := r.Get(p.n)
		return v, nil, e
	case 1:
		v, e := r.Little(p.n)
		return v, nil, e
	case 2:
		b, e := r.Take(p.n)
		return 0, b, e
	}
	return 0, nil, r.Pad(p.n)
}

func TestReadWhatWasWritten(t *testing.T) {
	random := rand.New(rand.NewSource(1))
	for range 300 {
		w, want := bits.NewWriter(), strings.Builder{}
		var parts []part
		for range random.Intn(30) {
			p := randomPart(random, w.Len())
			want.WriteString(p.model(w.Len()))
			if e := p.write(w); e != api.OK {
				t.Fatalf("write %+v: code %d", p, e)
			}
			parts = append(parts, p)
		}
		r := reader(t, w.Out()...)
		s := want.String()
		if w.Len() != len(s) || text(r) != s+strings.Repeat("0", r.Left()-len(s)) || r.Left()-len(s) > 7 {
			t.Fatalf("%+v: % x, want %s", parts, w.Out(), s)
		}
		place := 0
		for _, p := range parts {
			place += len(p.model(place))
			v, b, e := p.read(r)
			if e != api.OK || v != p.v || !slices.Equal(b, p.b) || r.Place() != place {
				t.Fatalf("read %+v: %d, % x, code %d, place %d, want %d", p, v, b, e, r.Place(), place)
			}
		}
	}
}

func TestTwoNumbersAreOne(t *testing.T) {
	random := rand.New(rand.NewSource(2))
	for m := 1; m < api.MaxBits; m++ {
		for n := 1; m+n <= api.MaxBits; n++ {
			a, b, ahead := random.Intn(1<<m), random.Intn(1<<n), random.Intn(9)
			apart, whole := filled(t, ahead), filled(t, ahead)
			apart.Put(a, m)
			apart.Put(b, n)
			whole.Put(a<<n+b, m+n)
			if !slices.Equal(apart.Out(), whole.Out()) || apart.Len() != whole.Len() {
				t.Fatalf("%d of %d bits and %d of %d: % x, % x", a, m, b, n, apart.Out(), whole.Out())
			}
			one, two := at(t, ahead, apart.Out()...), at(t, ahead, apart.Out()...)
			v, _ := one.Get(m + n)
			x, _ := two.Get(m)
			y, _ := two.Get(n)
			if v != a<<n+b || x != a || y != b || one.Place() != two.Place() {
				t.Fatalf("%d of %d bits and %d of %d: %d, %d, %d", a, m, b, n, v, x, y)
			}
		}
	}
}

func TestWholeBytes(t *testing.T) {
	all := make([]byte, 256)
	for i := range all {
		all[i] = byte(i)
	}
	w := bits.NewWriter()
	for _, c := range all {
		w.Put(int(c), 8)
	}
	if !slices.Equal(w.Out(), all) {
		t.Errorf("% x", w.Out())
	}
	if b, e := reader(t, w.Out()...).Take(256); e != api.OK || !slices.Equal(b, all) {
		t.Errorf("% x, code %d", b, e)
	}
	o := bits.NewWriter()
	o.Bytes(all)
	r := reader(t, o.Out()...)
	for i := range all {
		if v, e := r.Get(8); v != i || e != api.OK {
			t.Fatalf("byte %d: %d, code %d", i, v, e)
		}
	}
}

// TestAnyArguments calls everything with extreme numbers: P1 allows no panic.
func TestAnyArguments(t *testing.T) {
	numbers := []int{math.MinInt, math.MinInt + 1, -1 << 61, -1 << 32, -9, -1, 0, 1, 2, 7, 8, 9, 31, 32, 33, 63, 64, 65,
		4095, 4096, 4097, maxBits - 1, maxBits, maxBits + 1, 1<<31 - 1, 1 << 32, 1 << 60, 1 << 61, 1<<61 + 1, math.MaxInt - 1, math.MaxInt}
	writers := []*bits.Writer{nil, {}, bits.NewWriter(), filled(t, 3), filled(t, maxBits-9), filled(t, maxBits)}
	readers := []*bits.Reader{nil, {}, reader(t), reader(t, 1, 2), at(t, 3, 0xff), at(t, maxBits-3, make([]byte, api.MaxLength)...)}
	for _, x := range numbers {
		for _, w := range writers {
			for _, y := range numbers {
				o := w.Copy()
				o.Put(x, y)
				o.Little(x, y)
			}
			w.Copy().Align(x)
		}
		for _, r := range readers {
			o := r.Copy()
			o.Get(x)
			o.Little(x)
			o.Take(x)
			o.Skip(x)
			o.Pad(x)
			if o.Place()+o.Left() != r.Place()+r.Left() {
				t.Errorf("%d: place %d, %d left", x, o.Place(), o.Left())
			}
		}
	}
}
