package size_test

import (
	"maps"
	"math/big"
	"math/rand"
	"regexp"
	"slices"
	"strconv"
	"strings"
	"testing"

	"phrasebook/api"
	"phrasebook/size"
)

// fields are those of random sizes.
var fields = []string{"a", "b", "c", "d", "B", "a_", "a0", "ab"}

// randomNumber returns a number of any magnitude up to most, but for 0.
func randomNumber(random *rand.Rand) int {
	switch n := 1 + random.Intn(most)>>random.Intn(21); random.Intn(5) {
	case 0:
		return 1 - 2*random.Intn(2)
	case 1, 2:
		return n
	default:
		return -n
	}
}

func randomSize(random *rand.Rand) api.Size {
	s := made(0)
	if random.Intn(4) > 0 {
		s.Base = randomNumber(random)
	}
	for _, i := range random.Perm(len(fields))[:random.Intn(5)] {
		s.Terms = append(s.Terms, term(randomNumber(random), fields[i]))
	}
	return s
}

// randomRanges returns a range for each field.
func randomRanges(random *rand.Rand) ranges {
	r := ranges{}
	for _, name := range fields {
		low := random.Intn(api.MaxVarint) >> random.Intn(36)
		high := low + random.Intn(api.MaxVarint-low)>>random.Intn(36)
		r[name] = api.Range{Low: low, High: high}
	}
	return r
}

// randomValues returns a value for each field, often one at the end of the field's range.
func randomValues(random *rand.Rand, r ranges) values {
	v := values{}
	for _, name := range fields {
		switch random.Intn(4) {
		case 0:
			v[name] = r[name].Low
		case 1:
			v[name] = r[name].High
		default:
			v[name] = r[name].Low + random.Intn(r[name].High-r[name].Low+1)
		}
	}
	return v
}

// modelNumber returns the number of a size, computed without limits.
func modelNumber(s api.Size, v values) *big.Int {
	n := big.NewInt(int64(s.Base))
	for _, x := range s.Terms {
		n.Add(n, new(big.Int).Mul(big.NewInt(int64(x.Factor)), big.NewInt(int64(v[x.Field]))))
	}
	return n
}

func evaluated(t *testing.T, s api.Size, v values) int {
	t.Helper()
	n, e := size.Eval(s, v)
	if want := modelNumber(s, v); e != api.OK || big.NewInt(int64(n)).Cmp(want) != 0 {
		t.Fatalf("%v with %v: %d, code %d, not %v", s, v, n, e, want)
	}
	return n
}

func TestNumbersLieInTheInterval(t *testing.T) {
	random := rand.New(rand.NewSource(41))
	for range 5000 {
		s, r := randomSize(random), randomRanges(random)
		interval, e := size.Interval(s, r)
		if e != api.OK {
			t.Fatalf("%v with %v: code %d", s, r, e)
		}
		for range 4 {
			v := randomValues(random, r)
			if n := evaluated(t, s, v); n < interval.Low || n > interval.High {
				t.Fatalf("%v with %v: %d is not in %v", s, v, n, interval)
			}
		}
	}
}

func TestBothEndsOfTheIntervalOccur(t *testing.T) {
	random := rand.New(rand.NewSource(42))
	for range 5000 {
		s, r := randomSize(random), randomRanges(random)
		interval, _ := size.Interval(s, r)
		low, high := false, false
		// The ends occur where each value is at an end of its range.
		for ends := range 1 << len(s.Terms) {
			v := values{}
			for i, x := range s.Terms {
				v[x.Field] = r[x.Field].Low
				if ends>>i&1 == 1 {
					v[x.Field] = r[x.Field].High
				}
			}
			n := evaluated(t, s, v)
			low, high = low || n == interval.Low, high || n == interval.High
		}
		if !low || !high {
			t.Fatalf("%v with %v: %v, of which low %t, high %t", s, r, interval, low, high)
		}
	}
}

func TestNumberOfASum(t *testing.T) {
	random := rand.New(rand.NewSource(43))
	sums := 0
	for range 20000 {
		a, b := randomSize(random), randomSize(random)
		s, e := size.Add(a, b)
		if e != api.OK {
			continue
		}
		v := randomValues(random, randomRanges(random))
		if n, x, y := evaluated(t, s, v), evaluated(t, a, v), evaluated(t, b, v); n != x+y {
			t.Fatalf("%v is %d, but %v and %v are %d and %d", s, n, a, b, x, y)
		}
		normal, e := size.Normal(s)
		if !identical(normal, s) || e != api.OK || !slices.IsSortedFunc(s.Terms, func(x, y api.Term) int { return strings.Compare(x.Field, y.Field) }) {
			t.Fatalf("%v is not in normal form", s)
		}
		if back, e := size.Add(b, a); !identical(back, s) || e != api.OK {
			t.Fatalf("%v and %v: %v, code %d, not %v", b, a, back, e, s)
		}
		sums++
	}
	if sums < 5000 {
		t.Errorf("only %d sums", sums)
	}
}

// modelAdd returns the sum of valid sizes, or the error.
func modelAdd(a, b api.Size) (api.Size, api.Errno) {
	s, names := made(a.Base+b.Base), []string{}
	for _, x := range slices.Concat(a.Terms, b.Terms) {
		names = append(names, x.Field)
	}
	slices.Sort(names)
	wrong := s.Base > most || s.Base < -most
	for _, name := range slices.Compact(names) {
		factor := 0
		for _, x := range slices.Concat(a.Terms, b.Terms) {
			if x.Field == name {
				factor += x.Factor
			}
		}
		if factor != 0 {
			s.Terms = append(s.Terms, term(factor, name))
		}
		wrong = wrong || factor > most || factor < -most
	}
	switch {
	case wrong:
		return api.Size{}, api.ErrRange
	case len(s.Terms) > 4:
		return api.Size{}, api.ErrFull
	}
	return s, api.OK
}

// nearly returns a number whose sum with n is 0, or next to a limit, but never 0 itself.
func nearly(random *rand.Rand, n int) int {
	other := []int{0, most - 1, most, most + 1, -most - 1, -most, 1 - most}[random.Intn(7)] - n
	if other == 0 || other > most || other < -most {
		return 1
	}
	return other
}

func TestModelOfSums(t *testing.T) {
	random := rand.New(rand.NewSource(44))
	seen := map[api.Errno]int{}
	for range 20000 {
		a, b := randomSize(random), randomSize(random)
		if random.Intn(2) == 0 {
			b.Base = nearly(random, a.Base)
		}
		for i, x := range b.Terms {
			if at := slices.IndexFunc(a.Terms, func(y api.Term) bool { return y.Field == x.Field }); at >= 0 {
				b.Terms[i].Factor = nearly(random, a.Terms[at].Factor)
			}
		}
		s, e := size.Add(a, b)
		want, code := modelAdd(a, b)
		if !identical(s, want) || e != code {
			t.Fatalf("%v and %v: %v, code %d, not %v, code %d", a, b, s, e, want, code)
		}
		seen[e]++
	}
	if seen[api.OK] < 1000 || seen[api.ErrRange] < 1000 || seen[api.ErrFull] < 1000 {
		t.Errorf("only %v", seen)
	}
}

func TestEqualSizesInAnyOrder(t *testing.T) {
	random := rand.New(rand.NewSource(45))
	for range 3000 {
		a := randomSize(random)
		b := made(a.Base)
		for _, i := range random.Perm(len(a.Terms)) {
			b.Terms = append(b.Terms, a.Terms[i])
		}
		x, _ := size.Normal(a)
		y, _ := size.Normal(b)
		if !size.Equal(a, b) || !size.Equal(a, x) || !identical(x, y) {
			t.Fatalf("%v and %v are not equal, or their normal forms %v and %v", a, b, x, y)
		}
		if len(b.Terms) > 0 {
			b.Terms[random.Intn(len(b.Terms))].Factor++
			if size.Equal(a, b) {
				t.Fatalf("%v and %v are equal", a, b)
			}
		}
	}
}

func TestParseInvertsText(t *testing.T) {
	random := rand.New(rand.NewSource(46))
	for range 20000 {
		s := randomSize(random)
		text, e := size.Text(s)
		if e != api.OK {
			t.Fatalf("%v: code %d", s, e)
		}
		if again, e := size.Parse(text); !identical(again, s) || e != api.OK {
			t.Fatalf("%q: %v, code %d, not %v", text, again, e, s)
		}
	}
}

// The model of texts: a regular expression says what the text of a size is, but for limits and
// for names that occur twice.
const (
	factorForm = `(?:(?:[2-9]|[1-9][0-9]+)\*)?[A-Za-z][A-Za-z0-9_]*`
	baseForm   = `[1-9][0-9]*`
)

var (
	sizeForm = regexp.MustCompile(`^(?:0|-?` + baseForm + `|-?` + factorForm + `(?:[+-]` + factorForm + `)*(?:[+-]` + baseForm + `)?)$`)
	partForm = regexp.MustCompile(`([+-]?)(?:([0-9]+)\*)?([A-Za-z0-9_]+)`)
)

// modelParse returns the size with a text, and whether there is one.
func modelParse(text string) (api.Size, bool) {
	if !sizeForm.MatchString(text) {
		return api.Size{}, false
	}
	var s api.Size
	seen := map[string]bool{}
	for _, m := range partForm.FindAllStringSubmatch(text, -1) {
		digits, name := m[2], m[3]
		if name[0] <= '9' {
			digits, name = name, ""
		}
		n, e := strconv.Atoi(m[1] + "1")
		if digits != "" {
			n, e = strconv.Atoi(m[1] + digits)
		}
		if e != nil || n > most || n < -most || len(name) > 32 || seen[name] {
			return api.Size{}, false
		}
		seen[name] = true
		if name == "" {
			s.Base = n
		} else {
			s.Terms = append(s.Terms, term(n, name))
		}
	}
	return s, len(s.Terms) <= 4
}

// parsedLikeModel compares Parse with the model, and reports whether the text is that of a size.
func parsedLikeModel(t *testing.T, text string) bool {
	t.Helper()
	s, e := size.Parse(text)
	want, ok := modelParse(text)
	code := api.OK
	if !ok {
		want, code = api.Size{}, api.ErrFormat
	}
	if !identical(s, want) || e != code {
		t.Fatalf("%q: %v, code %d, not %v, code %d", text, s, e, want, code)
	}
	if back, e := size.Text(s); ok && (back != text || e != api.OK) {
		t.Fatalf("%q is written as %q, code %d", text, back, e)
	}
	return ok
}

func TestModelOfShortTexts(t *testing.T) {
	const bytes = "ab012*+-_ "
	right := 0
	var visit func(string)
	visit = func(text string) {
		if parsedLikeModel(t, text) {
			right++
		}
		if len(text) < 5 {
			for i := range len(bytes) {
				visit(text + bytes[i:i+1])
			}
		}
	}
	visit("")
	if right < 1000 {
		t.Errorf("only %d sizes", right)
	}
}

func TestModelOfLongTexts(t *testing.T) {
	random := rand.New(rand.NewSource(47))
	signs := []string{"", "+", "-", "+", "-", "+", "-", "--", "+-", " "}
	factors := []string{"", "", "", "2*", "10*", "1048576*", "1*", "0*", "02*", "1048577*", "*", "x*", "9223372036854775808*"}
	names := []string{"a", "b", "c", "d", "e", "f", "g", "n_1", "N9", "7", "12", "1048576", "1048577", "0", "01", "_a", "", strings.Repeat("w", 32), strings.Repeat("v", 33)}
	right := 0
	for range 100000 {
		text := ""
		for i := range 1 + random.Intn(6) {
			sign := signs[random.Intn(len(signs))]
			if i == 0 && random.Intn(2) == 0 {
				sign = ""
			}
			text += sign + factors[random.Intn(len(factors))] + names[random.Intn(len(names))]
		}
		if parsedLikeModel(t, text) {
			right++
		}
	}
	if right < 1000 {
		t.Errorf("only %d sizes", right)
	}
}

// TestOneByteOff changes texts of sizes at one place, since only few random texts are nearly right.
func TestOneByteOff(t *testing.T) {
	random := rand.New(rand.NewSource(48))
	const bytes = "ad019*+-_ .\n\x00\xFF"
	for range 20000 {
		text, _ := size.Text(randomSize(random))
		at := random.Intn(len(text) + 1)
		b := bytes[random.Intn(len(bytes)):][:1]
		parsedLikeModel(t, text[:at]+b+text[at:])
		if at < len(text) {
			parsedLikeModel(t, text[:at]+text[at+1:])
			parsedLikeModel(t, text[:at]+b+text[at+1:])
		}
	}
}

func TestSolvedValueGivesTheNumber(t *testing.T) {
	random := rand.New(rand.NewSource(49))
	solved := 0
	for range 20000 {
		s := randomSize(random)
		if len(s.Terms) == 0 {
			continue
		}
		v := randomValues(random, randomRanges(random))
		field := s.Terms[random.Intn(len(s.Terms))].Field
		number, want := evaluated(t, s, v), v[field]
		v[field] = -7
		if n, e := size.Solve(s, field, number, v); n != want || e != api.OK {
			t.Fatalf("%v is %d with %v for %s: %d, code %d, not %d", s, number, v, field, n, e, want)
		}
		number += random.Intn(2001) - 1000
		n, e := size.Solve(s, field, number, v)
		if e == api.OK {
			v[field] = n
			if evaluated(t, s, v) != number {
				t.Fatalf("%v is not %d with %v", s, number, v)
			}
			solved++
		} else if e != api.ErrNone || n != 0 {
			t.Fatalf("%v is %d with %v for %s: %d, code %d", s, number, v, field, n, e)
		}
	}
	if solved < 1000 {
		t.Errorf("only %d others", solved)
	}
}

// TestSolveFindsWhatThereIs compares Solve with a search of all values, near both ends of those
// that are allowed.
func TestSolveFindsWhatThereIs(t *testing.T) {
	for _, factor := range []int{1, -1, 2, -2, 3, -3, 7, -7, 20, -20} {
		s := made(-5, term(2, "o"), term(factor, "a"))
		for _, o := range []int{0, 9, greatest} {
			for _, end := range []int{0, greatest} {
				known := map[int]int{}
				for a := end - 60; a <= end+60; a++ {
					if a >= 0 && a <= greatest {
						known[2*o-5+factor*a] = a
					}
				}
				middle := 2*o - 5 + factor*end
				for number := middle - 60; number <= middle+60; number++ {
					want, found := known[number]
					code := api.OK
					if !found {
						code = api.ErrNone
					}
					if n, e := size.Solve(s, "a", number, values{"o": o}); n != want || e != code {
						t.Fatalf("%v is %d with %d: %d, code %d, not %d, code %d", s, number, o, n, e, want, code)
					}
				}
			}
		}
	}
}

func TestArgumentsStayAsTheyAre(t *testing.T) {
	random := rand.New(rand.NewSource(50))
	for range 500 {
		a, b, r := randomSize(random), randomSize(random), randomRanges(random)
		v := randomValues(random, r)
		// There is more behind the terms than a call may see.
		a.Terms = append(slices.Clone(a.Terms), term(9, "behind"))[:len(a.Terms)]
		a1, b1, r1, v1 := made(a.Base, slices.Clone(a.Terms[:len(a.Terms)+1])...), made(b.Base, slices.Clone(b.Terms)...), maps.Clone(r), maps.Clone(v)
		size.Valid(a)
		size.Eval(a, v)
		size.Length(a, v)
		size.Interval(a, r)
		for name := range size.Names(a) {
			size.Solve(a, name, 1, v)
		}
		size.Add(a, b)
		size.Normal(a)
		size.Equal(a, b)
		size.Text(a)
		if !identical(made(a.Base, a.Terms[:len(a.Terms)+1]...), a1) || !identical(b, b1) || !maps.Equal(r, r1) || !maps.Equal(v, v1) {
			t.Fatalf("%v, %v, %v, %v are no longer %v, %v, %v, %v", a, b, r, v, a1, b1, r1, v1)
		}
	}
}
