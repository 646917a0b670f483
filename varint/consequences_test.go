package varint_test

import (
	"bytes"
	"math/rand"
	"slices"
	"testing"

	"phrasebook/api"
	"phrasebook/varint"
)

// tried are integers of all lengths.
func tried(random *rand.Rand) []int {
	l := borders()
	for range 2000 {
		l = append(l, randomInteger(random))
	}
	return l
}

func TestReadOfFormsWhateverFollows(t *testing.T) {
	random := rand.New(rand.NewSource(8))
	for _, v := range tried(random) {
		normal := true
		for form := range varint.Forms(v) {
			for _, more := range [][]byte{nil, {0}, {0x80}, {0xFF, 0xFF, 0xFF, 0xFF, 0xFF, 0xFF}, {byte(random.Intn(256)), byte(random.Intn(256))}} {
				b := append(slices.Clone(form), more...)
				read(t, b, true, v, len(form), api.OK)
				if normal {
					read(t, b, false, v, len(form), api.OK)
				} else {
					read(t, b, false, 0, 0, api.ErrFormat)
				}
			}
			for n := range form {
				read(t, form[:n], true, 0, 0, api.ErrShort)
				read(t, form[:n], false, 0, 0, api.ErrShort)
			}
			normal = false
		}
	}
}

func TestTheNormalFormIsTheShortest(t *testing.T) {
	random := rand.New(rand.NewSource(9))
	for _, v := range tried(random) {
		length, _ := varint.Len(v)
		b, _ := varint.Append(nil, v)
		n := length
		for form := range varint.Forms(v) {
			if len(form) != n || n == length && !bytes.Equal(form, b) || n > length && form[n-1] != 0 {
				t.Errorf("form %x of %d, with %d bytes", form, v, n)
			}
			n++
		}
		if n != 6 {
			t.Errorf("the longest form of %d has %d bytes", v, n-1)
		}
	}
}

func TestNoFormBeginsAnotherOne(t *testing.T) {
	random := rand.New(rand.NewSource(10))
	var forms [][]byte
	for _, v := range append(tried(random), 0, 1, 2, 127, 128, 129) {
		forms = slices.AppendSeq(forms, varint.Forms(v))
	}
	slices.SortFunc(forms, bytes.Compare)
	forms = slices.CompactFunc(forms, bytes.Equal)
	for i := 1; i < len(forms); i++ { // what begins with a form stands right behind it
		if bytes.HasPrefix(forms[i], forms[i-1]) {
			t.Errorf("%x begins %x", forms[i-1], forms[i])
		}
	}
}

func TestWhatIsReadIsAForm(t *testing.T) {
	random := rand.New(rand.NewSource(11))
	for range 50000 {
		b := randomBytes(random)
		v, n, e := varint.Read(b, true)
		if e != api.OK {
			continue
		}
		same := func(form []byte) bool { return bytes.Equal(form, b[:n]) }
		if !slices.ContainsFunc(slices.Collect(varint.Forms(v)), same) {
			t.Errorf("%x is read as %d, but is not one of its forms", b[:n], v)
		}
		_, length, e := varint.Read(b, false)
		if normal, _ := varint.Len(v); (e == api.OK) != (normal == n) || e == api.OK && length != n {
			t.Errorf("%x: length %d, code %d", b[:n], length, e)
		}
	}
}

func TestFold(t *testing.T) {
	for v, folded := range map[int]int{
		0: 0, -1: 1, 1: 2, -2: 3, 2: 4, 5: 10, -5: 9, 63: 126, -64: 127, 64: 128, -65: 129,
		signed - 1: end - 2, -signed: end - 1, signed - 2: end - 4, 1 - signed: end - 3, 1 << 32: 1 << 33, -1 << 32: 1<<33 - 1,
	} {
		if got, e := varint.Fold(v); got != folded || e != api.OK {
			t.Errorf("Fold(%d) = %d, code %d, not %d", v, got, e, folded)
		}
		if got, e := varint.Unfold(folded); got != v || e != api.OK {
			t.Errorf("Unfold(%d) = %d, code %d, not %d", folded, got, e, v)
		}
	}
	wrong := []int{signed, signed + 1, -signed - 1, -signed - 2}
	for _, v := range notIntegers() {
		if got, e := varint.Unfold(v); got != 0 || e != api.ErrRange {
			t.Errorf("Unfold(%d) = %d, code %d", v, got, e)
		}
		if v < -signed || v >= signed {
			wrong = append(wrong, v)
		}
	}
	for _, v := range wrong {
		if got, e := varint.Fold(v); got != 0 || e != api.ErrRange {
			t.Errorf("Fold(%d) = %d, code %d", v, got, e)
		}
	}
}

func TestUnfoldInvertsFold(t *testing.T) {
	random := rand.New(rand.NewSource(12))
	for _, folded := range tried(random) {
		v, e := varint.Unfold(folded)
		again, f := varint.Fold(v)
		if again != folded || e != api.OK || f != api.OK || v < -signed || v >= signed {
			t.Errorf("%d is unfolded as %d, which is folded as %d", folded, v, again)
		}
	}
	for n, v := range []int{0, -1, 1, -2, 2, -3, 3, -4, 4} {
		if folded, _ := varint.Fold(v); folded != n {
			t.Errorf("%d is folded as %d, not %d", v, folded, n)
		}
	}
	for range 3000 {
		v := randomInteger(random) - signed
		folded, e := varint.Fold(v)
		again, f := varint.Unfold(folded)
		if again != v || e != api.OK || f != api.OK {
			t.Errorf("%d is folded as %d, which is unfolded as %d", v, folded, again)
		}
	}
}
