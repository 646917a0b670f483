package varint_test

import (
	"bytes"
	"math/rand"
	"slices"
	"testing"

	"phrasebook/api"
	"phrasebook/varint"
)

func TestExamples(t *testing.T) {
	if b, e := varint.Append(nil, 300); !bytes.Equal(b, []byte{0xAC, 2}) || e != api.OK {
		t.Errorf("%x, code %d", b, e)
	}
	if b, e := varint.Append(nil, 0); !bytes.Equal(b, []byte{0}) || e != api.OK {
		t.Errorf("%x, code %d", b, e)
	}
	if b, e := varint.Append(nil, api.MaxVarint); b != nil || e != api.ErrRange {
		t.Errorf("%x, code %d", b, e)
	}
	if n, e := varint.Len(1<<35 - 1); n != 5 || e != api.OK {
		t.Errorf("%d, code %d", n, e)
	}
	read(t, []byte{0xAC, 2, 0xFF}, false, 300, 2, api.OK)
	read(t, []byte{0xAC}, false, 0, 0, api.ErrShort)
	read(t, []byte{0x80, 0}, false, 0, 0, api.ErrFormat)
	read(t, []byte{0x80, 0}, true, 0, 2, api.OK)
	read(t, []byte{0x80, 0x80, 0x80, 0x80, 0x80}, false, 0, 0, api.ErrFormat)
	read(t, []byte{0x80, 0x80, 0x80, 0x80, 0x80}, true, 0, 0, api.ErrFormat)
}

// appended checks Append and Len with an integer, behind bytes in memory that goes on behind them.
func appended(t *testing.T, random *rand.Rand, v int, normal []byte) {
	t.Helper()
	memory := make([]byte, random.Intn(12))
	random.Read(memory)
	before := slices.Clone(memory)
	b := memory[:random.Intn(len(memory)+1)]
	got, e := varint.Append(b, v)
	want := append(slices.Clone(b), normal...)
	if !bytes.Equal(got, want) || e != api.OK {
		t.Errorf("Append(%x, %d) = %x, code %d, not %x", b, v, got, e, want)
	}
	for i := range got {
		got[i]++
	}
	got = append(got, 1, 2, 3)
	if !bytes.Equal(memory, before) {
		t.Errorf("Append(%x, %d) changed %x to %x", b, v, before, memory)
	}
	if n, e := varint.Len(v); n != len(normal) || e != api.OK {
		t.Errorf("Len(%d) = %d, code %d, not %d", v, n, e, len(normal))
	}
}

func TestAppendAndLen(t *testing.T) {
	random := rand.New(rand.NewSource(1))
	for _, c := range []struct {
		v      int
		normal string
	}{
		{0, "00"}, {1, "01"}, {44, "2c"}, {127, "7f"}, {128, "8001"}, {129, "8101"}, {255, "ff01"}, {256, "8002"}, {300, "ac02"}, {16383, "ff7f"}, {16384, "808001"},
		{1<<21 - 1, "ffff7f"}, {1 << 21, "80808001"}, {1<<28 - 1, "ffffff7f"}, {1 << 28, "8080808001"}, {1<<32 - 1, "ffffffff0f"}, {end - 1, "ffffffff7f"},
	} {
		appended(t, random, c.v, unhex(t, c.normal))
	}
	for _, v := range borders() {
		appended(t, random, v, modelForms(v)[0])
	}
	for range 3000 {
		v := randomInteger(random)
		appended(t, random, v, modelForms(v)[0])
	}
}

func TestIntegersWithoutForms(t *testing.T) {
	for _, v := range notIntegers() {
		memory := []byte{1, 2, 3, 4, 5, 6, 7}
		for _, b := range [][]byte{nil, {}, memory[:2], memory} {
			if got, e := varint.Append(b, v); len(got) != 0 || e != api.ErrRange {
				t.Errorf("Append(%x, %d) = %x, code %d", b, v, got, e)
			}
		}
		if !bytes.Equal(memory, []byte{1, 2, 3, 4, 5, 6, 7}) {
			t.Errorf("Append of %d changed its bytes to %x", v, memory)
		}
		if n, e := varint.Len(v); n != 0 || e != api.ErrRange {
			t.Errorf("Len(%d) = %d, code %d", v, n, e)
		}
		for form := range varint.Forms(v) {
			t.Errorf("%d has the form %x", v, form)
		}
	}
}

func TestRead(t *testing.T) {
	for _, c := range []struct {
		text          string
		loose         bool
		value, length int
		e             api.Errno
	}{
		{"", false, 0, 0, api.ErrShort}, {"", true, 0, 0, api.ErrShort},
		{"80", false, 0, 0, api.ErrShort}, {"ff", true, 0, 0, api.ErrShort},
		{"8080", false, 0, 0, api.ErrShort}, {"80808080", false, 0, 0, api.ErrShort}, {"ffffffff", true, 0, 0, api.ErrShort},
		{"8080808080", false, 0, 0, api.ErrFormat}, {"ffffffffff", true, 0, 0, api.ErrFormat},
		{"ffffffffff01", false, 0, 0, api.ErrFormat}, {"ffffffffff01", true, 0, 0, api.ErrFormat}, {"808080808000", true, 0, 0, api.ErrFormat},
		{"00", false, 0, 1, api.OK}, {"00", true, 0, 1, api.OK}, {"0000", false, 0, 1, api.OK}, {"00ff", false, 0, 1, api.OK},
		{"7f", false, 127, 1, api.OK}, {"7f80808080", false, 127, 1, api.OK},
		{"8000", false, 0, 0, api.ErrFormat}, {"8100", false, 0, 0, api.ErrFormat}, {"8100", true, 1, 2, api.OK}, {"ff00", true, 127, 2, api.OK},
		{"80800000", false, 0, 0, api.ErrFormat}, {"80800000", true, 0, 3, api.OK}, {"80808000", true, 0, 4, api.OK},
		{"8080808000", false, 0, 0, api.ErrFormat}, {"8080808000", true, 0, 5, api.OK}, {"ac82808000", true, 300, 5, api.OK},
		{"8001", false, 128, 2, api.OK}, {"8001", true, 128, 2, api.OK}, {"808001", false, 16384, 3, api.OK}, {"ac8201", false, 16684, 3, api.OK},
		{"ffffffff7f", false, end - 1, 5, api.OK}, {"ffffffff7fff", true, end - 1, 5, api.OK}, {"8080808001", false, 1 << 28, 5, api.OK},
	} {
		read(t, unhex(t, c.text), c.loose, c.value, c.length, c.e)
	}
}

func TestReadAsTheModel(t *testing.T) {
	compare := func(b []byte) {
		before := slices.Clone(b)
		for _, loose := range []bool{false, true} {
			v, n, e := modelRead(b, loose)
			read(t, b, loose, v, n, e)
		}
		if !bytes.Equal(b, before) {
			t.Errorf("Read changed %x to %x", before, b)
		}
	}
	texts([]byte{0, 1, 0x7F, 0x80, 0x81, 0xFF}, 6, compare)
	for a := range 256 {
		for b := range 256 {
			compare([]byte{byte(a), byte(b)})
			compare([]byte{byte(a), 0x80 | byte(b), byte(a + b), 5})
		}
	}
	random := rand.New(rand.NewSource(2))
	for range 100000 {
		b := make([]byte, random.Intn(9))
		for i := range b {
			b[i] = byte(random.Intn(256)) | byte(random.Intn(3)&2<<6)
		}
		compare(b)
	}
}

func TestForms(t *testing.T) {
	for v, list := range map[int][]string{
		0:         {"00", "8000", "808000", "80808000", "8080808000"},
		127:       {"7f", "ff00", "ff8000", "ff808000", "ff80808000"},
		300:       {"ac02", "ac8200", "ac828000", "ac82808000"},
		1 << 14:   {"808001", "80808100", "8080818000"},
		1<<28 - 1: {"ffffff7f", "ffffffff00"},
		1 << 28:   {"8080808001"},
		end - 1:   {"ffffffff7f"},
	} {
		var want [][]byte
		for _, text := range list {
			want = append(want, unhex(t, text))
		}
		if got := slices.Collect(varint.Forms(v)); !slices.EqualFunc(got, want, bytes.Equal) {
			t.Errorf("the forms of %d are %x, not %x", v, got, want)
		}
	}
	random := rand.New(rand.NewSource(3))
	l := borders()
	for range 3000 {
		l = append(l, randomInteger(random))
	}
	for _, v := range l {
		if got, want := slices.Collect(varint.Forms(v)), modelForms(v); !slices.EqualFunc(got, want, bytes.Equal) {
			t.Errorf("the forms of %d are %x, not %x", v, got, want)
		}
	}
}

func TestFormsAreFreshLists(t *testing.T) {
	for _, v := range []int{0, 5, 127, 128, 300, 1 << 20, 1 << 30} {
		forms, want := varint.Forms(v), modelForms(v)
		var all [][]byte
		for range 3 {
			i := 0
			for form := range forms {
				if !bytes.Equal(form, want[i]) {
					t.Errorf("form %d of %d is %x, not %x", i, v, form, want[i])
				}
				for k := range form {
					form[k] = 0x55
				}
				form = append(form, 0x55)
				all = append(all, form)
				i++
			}
		}
		for _, form := range all {
			for _, c := range form {
				if c != 0x55 {
					t.Errorf("a form of %d has been changed to %x", v, form)
				}
			}
			clear(form)
		}
	}
}

func TestFormsAreLeftEarlyAndUsedAgain(t *testing.T) {
	forms, want := varint.Forms(5), modelForms(5)
	for stop := range want {
		var got [][]byte
		for form := range forms {
			got = append(got, form)
			if len(got) > stop {
				break
			}
		}
		if !slices.EqualFunc(got, want[:stop+1], bytes.Equal) {
			t.Errorf("up to form %d: %x", stop, got)
		}
	}
	pairs := 0
	for a := range forms {
		for b := range forms {
			if !bytes.Equal(a, want[pairs/5]) || !bytes.Equal(b, want[pairs%5]) {
				t.Errorf("pair %d: %x and %x", pairs, a, b)
			}
			pairs++
		}
	}
	if pairs != 25 {
		t.Errorf("%d pairs", pairs)
	}
}
