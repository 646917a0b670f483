package scope_test

import (
	"math"
	"slices"
	"testing"

	"phrasebook/api"
	"phrasebook/scope"
)

func unsigned(name string) api.Field {
	return api.Field{Name: name, Kind: api.KindUint, Bits: 8, High: 9}
}

func constant(name string) api.Field { return api.Field{Name: name, Kind: api.KindConst, Bits: 8} }

func varint(name string) api.Field { return api.Field{Name: name, Kind: api.KindVarint, High: 9} }

// sized returns the sum of numbers with some names.
func sized(names ...string) api.Size {
	var s api.Size
	for _, name := range names {
		s.Terms = append(s.Terms, api.Term{Field: name, Factor: 1})
	}
	return s
}

func octets(name string, numbers ...string) api.Field {
	return api.Field{Name: name, Kind: api.KindBytes, Size: sized(numbers...)}
}

func nested(name, of string) api.Field {
	return api.Field{Name: name, Kind: api.KindMessage, Of: of}
}

func list(name, of string, numbers ...string) api.Field {
	return api.Field{Name: name, Kind: api.KindList, Of: of, Size: sized(numbers...)}
}

func view(name, of string, numbers ...string) api.Field {
	return api.Field{Name: name, Kind: api.KindView, Of: of, Size: sized(numbers...)}
}

func choice(name, tag string, of ...string) api.Field {
	f := api.Field{Name: name, Kind: api.KindChoice, Tag: tag}
	for i, o := range of {
		f.Cases = append(f.Cases, api.Case{Low: i, High: i, Of: o})
	}
	return f
}

func checksum(name, from string) api.Field {
	return api.Field{Name: name, Kind: api.KindCheck, Check: 1, From: from}
}

func pad(name string) api.Field { return api.Field{Name: name, Kind: api.KindPad, Bits: 8} }

func message(name string, fields ...api.Field) api.Message {
	return api.Message{Name: name, Fields: fields}
}

func defined(start string, messages ...api.Message) api.Definition {
	return api.Definition{Name: "d", Messages: messages, Start: start}
}

// example returns the definition of the chapter's examples.
func example() api.Definition {
	l := list("l", "b", "n")
	l.Size.Terms[0].Factor = 2
	return defined("c",
		message("a", unsigned("n")),
		message("b", nested("x", "a")),
		message("c", unsigned("n"), varint("t"), l, choice("s", "t", "a", "b"), checksum("k", "l")),
		message("z", unsigned("n")))
}

// links checks which fields the fields of a message use, and by which ones they are used.
func links(t *testing.T, m api.Message, uses ...[]int) {
	t.Helper()
	users := make([][]int, len(m.Fields))
	for i := range m.Fields {
		var want []int
		if i < len(uses) {
			want = uses[i]
		}
		for _, j := range want {
			users[j] = append(users[j], i)
		}
		if l, e := scope.Uses(m, i); !slices.Equal(l, want) || e != api.OK {
			t.Errorf("field %d uses %v, code %d, not %v, in %+v", i, l, e, want, m)
		}
	}
	for i, want := range users {
		if l, e := scope.Users(m, i); !slices.Equal(l, want) || e != api.OK {
			t.Errorf("field %d is used by %v, code %d, not %v, in %+v", i, l, e, want, m)
		}
	}
	for _, i := range []int{math.MinInt, -1 << 32, -2, -1, len(m.Fields), len(m.Fields) + 1, 1 << 32, math.MaxInt} {
		if l, e := scope.Uses(m, i); len(l) != 0 || e != api.ErrRange {
			t.Errorf("field %d of %d uses %v, code %d", i, len(m.Fields), l, e)
		}
		if l, e := scope.Users(m, i); len(l) != 0 || e != api.ErrRange {
			t.Errorf("field %d of %d is used by %v, code %d", i, len(m.Fields), l, e)
		}
	}
}

// TestExamples looks at those of the chapter.
func TestExamples(t *testing.T) {
	d := example()
	links(t, d.Messages[2], nil, nil, []int{0}, []int{1}, []int{2})
	free(t, d.Messages[2])
	free(t, d.Messages[0], 0)
	reached(t, d, []int{0, 1, 2}, []int{3})
	paths(t, d, []int{2, 0}, []int{2, 1}, []int{2}, nil)
}

func TestWhatKindsUse(t *testing.T) {
	n, m, b := unsigned("n"), unsigned("m"), octets("b")
	links(t, message("x"))
	links(t, message("x", n))
	links(t, message("x", n, m, octets("f", "n")), nil, nil, []int{0})
	links(t, message("x", n, m, octets("f", "m")), nil, nil, []int{1})
	links(t, message("x", n, m, octets("f", "n", "m")), nil, nil, []int{0, 1})
	links(t, message("x", n, m, octets("f", "m", "n")), nil, nil, []int{0, 1})
	links(t, message("x", n, m, list("f", "n", "m")), nil, nil, []int{1})
	links(t, message("x", n, m, list("f", "a", "m", "n")), nil, nil, []int{0, 1})
	links(t, message("x", n, m, view("f", "m", "n")), nil, nil, []int{0})
	links(t, message("x", n, m, view("f", "a", "m", "n")), nil, nil, []int{0, 1})
	links(t, message("x", n, m, choice("f", "m", "n")), nil, nil, []int{1})
	links(t, message("x", n, m, b, checksum("f", "b")), nil, nil, nil, []int{2})
	links(t, message("x", n, m, octets("f"), list("g", "n"), view("h", "n")))
	links(t, message("x", n, m, nested("f", "n"), constant("g"), varint("h"), pad("i"), api.Field{Name: "j", Kind: api.KindUntil}, api.Field{Name: "k", Kind: api.KindHeaders}))
	// Several fields may use one, and one several ones.
	links(t, message("x", n, octets("b", "n"), m, list("l", "a", "m", "n"), choice("s", "n", "a"), view("v", "a", "n"), checksum("k", "n"), checksum("i", "k"), checksum("j", "i")),
		nil, []int{0}, nil, []int{0, 2}, []int{0}, []int{0}, []int{0}, []int{6}, []int{7})
}

// everything returns a field that has all that kinds may use.
func everything(kind api.Kind) api.Field {
	return api.Field{Name: "f", Kind: kind, Bits: 8, Little: true, Loose: true, Low: 1, High: 2, Size: sized("s0", "s1"), Of: "o", Tag: "t", From: "k", Cases: choice("", "", "c0", "c1").Cases, Check: 1, Key: 1}
}

// TestWhatKindsDoNotUse looks at fields that have all that others may use.
func TestWhatKindsDoNotUse(t *testing.T) {
	uses := map[api.Kind][]int{
		api.KindBytes: {0, 2}, api.KindList: {0, 2}, api.KindView: {0, 2}, api.KindChoice: {4}, api.KindCheck: {6},
	}
	kinds := []api.Kind{math.MinInt, -12, -4, -1, 0, 13, 14, 1<<32 + 4, math.MaxInt}
	for kind := api.KindUint; kind <= api.KindView; kind++ {
		kinds = append(kinds, kind)
	}
	for _, kind := range kinds {
		m := message("x", unsigned("s0"), unsigned("o"), unsigned("s1"), unsigned("c0"), unsigned("t"), unsigned("c1"), unsigned("k"), everything(kind))
		links(t, m, nil, nil, nil, nil, nil, nil, nil, uses[kind])
	}
}

// TestKindsThatAreUsed shows that the kind of a field makes no difference to those that use it.
func TestKindsThatAreUsed(t *testing.T) {
	for kind := api.Kind(-1); kind <= 14; kind++ {
		u := api.Field{Name: "u", Kind: kind}
		l := []int{0}
		links(t, message("x", u, octets("a", "u"), list("b", "m", "u"), view("c", "m", "u"), choice("d", "u"), checksum("e", "u")), nil, l, l, l, l, l)
	}
}

// TestOrderOfFields shows that only fields before one count.
func TestOrderOfFields(t *testing.T) {
	n := unsigned("n")
	for _, user := range []api.Field{octets("f", "n"), list("f", "a", "n"), view("f", "a", "n"), choice("f", "n", "a"), checksum("f", "n")} {
		links(t, message("x", user))
		links(t, message("x", user, n))
		links(t, message("x", n, user), nil, []int{0})
		links(t, message("x", n, user, n), nil, []int{0})
		links(t, message("x", user, n, user), nil, nil, []int{1})
		links(t, message("x", pad("p"), user, n, n, user, user, n), nil, nil, nil, nil, []int{2}, []int{2})
		user.Name = "n"
		links(t, message("x", user))
		links(t, message("x", user, user), nil, []int{0})
		links(t, message("x", user, user, user, n), nil, []int{0}, []int{0})
		links(t, message("x", n, user, user), nil, []int{0}, []int{0})
		links(t, message("x", user, n, user), nil, nil, []int{0})
	}
	links(t, message("x", unsigned("a"), octets("f", "a", "b"), unsigned("b"), octets("g", "b", "a")), nil, []int{0}, nil, []int{0, 2})
}

func TestSameNames(t *testing.T) {
	n := unsigned("n")
	links(t, message("x", n, pad("n"), octets("b", "n")), nil, nil, []int{0})
	links(t, message("x", pad("n"), n, octets("b", "n")), nil, nil, []int{0})
	links(t, message("x", pad("p"), nested("n", "a"), n, choice("s", "n"), n, checksum("k", "n")), nil, nil, nil, []int{1}, nil, []int{1})
	// Names that differ in one letter only are others, and an empty one is a name, too.
	links(t, message("x", n, octets("b", "N", "nn", "", "n ", "m")))
	links(t, message("x", n, unsigned(""), octets("b", ""), choice("c", ""), checksum("d", "")), nil, nil, []int{1}, []int{1}, []int{1})
	links(t, message("x", n, choice("c", ""), checksum("d", ""), octets("b", "")))
}

// TestSizesThatAreNotValid looks at names only: factors make no difference.
func TestSizesThatAreNotValid(t *testing.T) {
	n, m := unsigned("n"), unsigned("m")
	links(t, message("x", n, m, octets("b", "n", "n")), nil, nil, []int{0})
	links(t, message("x", n, m, octets("b", "m", "n", "m", "n", "m", "z", "n")), nil, nil, []int{0, 1})
	for _, factor := range []int{math.MinInt, -1, 0, 1, 7, math.MaxInt} {
		b := octets("b", "n", "m")
		b.Size.Base = factor
		b.Size.Terms[1].Factor = factor
		links(t, message("x", n, m, b), nil, nil, []int{0, 1})
	}
}

// free checks which numbers of a message are free, also in loops that are left early.
func free(t *testing.T, m api.Message, want ...int) {
	t.Helper()
	numbers := scope.Free(m)
	for range 2 {
		if l := slices.Collect(numbers); !slices.Equal(l, want) {
			t.Errorf("%v, not %v, are free in %+v", l, want, m)
		}
	}
	for n := range want {
		var l []int
		for i := range numbers {
			if l = append(l, i); len(l) == n+1 {
				break
			}
		}
		if !slices.Equal(l, want[:n+1]) {
			t.Errorf("%v, not %v, are the first to be free in %+v", l, want[:n+1], m)
		}
	}
}

func TestFree(t *testing.T) {
	n := unsigned("n")
	free(t, message("x"))
	free(t, message("x", n), 0)
	free(t, message("x", n, constant("c"), varint("v")), 0, 1, 2)
	free(t, message("x", pad("p"), varint("v"), octets("b"), constant("c"), nested("o", "v"), n), 1, 3, 5)
	for _, user := range []api.Field{octets("f", "n"), list("f", "a", "n"), view("f", "a", "n"), choice("f", "n", "a"), checksum("f", "n")} {
		free(t, message("x", n, user))
		free(t, message("x", user, n), 1)
		free(t, message("x", n, user, n), 2)
		free(t, message("x", varint("v"), n, user), 0)
		free(t, message("x", n, varint("v"), user, user), 1)
		free(t, message("x", constant("n"), user))
		free(t, message("x", varint("n"), user, varint("v")), 2)
		free(t, message("x", pad("n"), n, user), 1)
	}
	free(t, message("x", n, nested("o", "n"), unsigned("m"), octets("b", "m"), checksum("k", "b")), 0)
	free(t, message("x", n, n, octets("b", "n")), 1)
	for kind := api.Kind(-3); kind <= 15; kind++ {
		var want []int
		if kind >= api.KindUint && kind <= api.KindVarint {
			want = []int{0}
		}
		free(t, message("x", everything(kind)), want...)
	}
}

// TestFreeOfAMessageThatIsChanged shows that the iterator keeps to the message as it was.
func TestFreeOfAMessageThatIsChanged(t *testing.T) {
	m := message("x", unsigned("n"), unsigned("m"), octets("b", "n"), unsigned("l"))
	numbers := scope.Free(m)
	want := []int{1, 3}
	change := []func(){
		func() { m.Fields[2].Size.Terms[0].Field = "m" },
		func() { m.Fields[1] = pad("p") },
		func() { m.Fields[3].Name = "n" },
		func() { clear(m.Fields) },
		func() { m.Fields = nil },
	}
	for _, c := range change {
		c()
		if l := slices.Collect(numbers); !slices.Equal(l, want) {
			t.Errorf("%v, not %v, once the message is changed", l, want)
		}
	}
	i := 0
	m = message("x", unsigned("n"), unsigned("m"))
	for n := range scope.Free(m) {
		m.Fields[1].Kind = api.KindPad
		if n != i {
			t.Errorf("%d, not %d, in a loop that changes the message", n, i)
		}
		i++
	}
	if i != 2 {
		t.Errorf("%d numbers in a loop that changes the message", i)
	}
}

// TestLoopsWithinLoops uses an iterator while it is in use.
func TestLoopsWithinLoops(t *testing.T) {
	numbers := scope.Free(message("x", unsigned("a"), pad("p"), unsigned("b"), unsigned("c")))
	var l []int
	for i := range numbers {
		for j := range numbers {
			if j > i {
				break
			}
			l = append(l, j)
		}
	}
	if want := []int{0, 0, 2, 0, 2, 3}; !slices.Equal(l, want) {
		t.Errorf("%v, not %v", l, want)
	}
}

// TestManyFields takes messages that are far too great.
func TestManyFields(t *testing.T) {
	const n = 50000
	m := message("x", unsigned("n"))
	var want []int
	for i := range n {
		m.Fields = append(m.Fields, octets("n", "n"))
		want = append(want, i+1)
	}
	if l, e := scope.Users(m, 0); !slices.Equal(l, want) || e != api.OK {
		t.Errorf("%d users, code %d", len(l), e)
	}
	if l, e := scope.Uses(m, n); !slices.Equal(l, []int{0}) || e != api.OK {
		t.Errorf("%v is used, code %d", l, e)
	}
	free(t, m)
	m = message("x")
	for range n {
		m.Fields = append(m.Fields, unsigned("n"))
	}
	if l := slices.Collect(scope.Free(m)); len(l) != n || l[n-1] != n-1 {
		t.Errorf("%d are free", len(l))
	}
}
