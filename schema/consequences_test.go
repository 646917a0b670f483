package schema_test

import (
	"fmt"
	"math/rand"
	"slices"
	"testing"

	"phrasebook/api"
	"phrasebook/schema"
)

// valid checks that a definition is valid.
func valid(t *testing.T, d api.Definition) {
	t.Helper()
	if f, found := schema.Check(d); found || f != (api.Flaw{}) || !schema.Valid(d) {
		t.Fatalf("%v, %t, of %+v", f, found, d)
	}
}

func TestRandomDefinitions(t *testing.T) {
	random := rand.New(rand.NewSource(51))
	seen, deepest, notStrict := map[api.Kind]int{}, 0, 0
	for range 500 {
		d, depths, loose := randomDefinition(random)
		valid(t, d)
		for i, m := range d.Messages {
			natured(t, d, i, depths[m.Name], !loose[m.Name])
			if j, found := schema.Find(d, m.Name); j != i || !found {
				t.Fatalf("%s is at %d, not %d", m.Name, j, i)
			}
			deepest = max(deepest, depths[m.Name])
			if loose[m.Name] {
				notStrict++
			}
			for _, f := range m.Fields {
				seen[f.Kind]++
			}
		}
	}
	for _, kind := range kinds {
		if seen[kind] < 1000 {
			t.Errorf("only %d fields of kind %d", seen[kind], kind)
		}
	}
	if deepest != api.MaxDepth || notStrict < 1000 {
		t.Errorf("depth %d at most, %d messages that are not strict", deepest, notStrict)
	}
}

func TestDepthIsAboveThoseReferredTo(t *testing.T) {
	random := rand.New(rand.NewSource(52))
	for range 100 {
		d, _, _ := randomDefinition(random)
		for i, m := range d.Messages {
			depth, _ := schema.Depth(d, i)
			strict, _ := schema.Strict(d, i)
			greatest := 0
			for name := range schema.Refers(m) {
				j, found := schema.Find(d, name)
				below, e := schema.Depth(d, j)
				inner, g := schema.Strict(d, j)
				if !found || j >= i || e != api.OK || g != api.OK || below >= depth || strict && !inner {
					t.Fatalf("%s refers to %s: depths %d and %d, strict %t and %t", m.Name, name, depth, below, strict, inner)
				}
				greatest = max(greatest, below)
			}
			if depth != greatest+1 {
				t.Fatalf("%s: depth %d, but %d below", m.Name, depth, greatest)
			}
		}
	}
}

func TestWithoutTheLastMessage(t *testing.T) {
	random := rand.New(rand.NewSource(53))
	for range 500 {
		d, _, _ := randomDefinition(random)
		for n := len(d.Messages) - 1; n >= 0; n-- {
			if d.Messages[n].Name == d.Start {
				d.Messages = d.Messages[:n]
				want := api.Flaw{Message: -1, Field: -1, Code: api.FlawStart}
				if n == 0 {
					want.Code = api.FlawCount
				}
				if f, found := schema.Check(d); f != want || !found {
					t.Fatalf("%v, not %v, without the start", f, want)
				}
				break
			}
			d.Messages = d.Messages[:n]
			valid(t, d)
		}
	}
}

func TestWithAFurtherMessage(t *testing.T) {
	random := rand.New(rand.NewSource(54))
	for range 30 {
		d, depths, _ := randomDefinition(random)
		for i := 0; len(d.Messages) < api.MaxMessages; i++ {
			m := d.Messages[random.Intn(len(d.Messages))]
			depth := depths[m.Name]
			m.Name = fmt.Sprintf("new%d", i)
			depths[m.Name] = depth
			d.Messages = append(d.Messages, m)
			valid(t, d)
			if n, e := schema.Depth(d, len(d.Messages)-1); n != depth || e != api.OK {
				t.Fatalf("%+v is of the depth %d, code %d, not %d", m, n, e, depth)
			}
		}
		d.Messages = append(d.Messages, message("one_more", pad("p", 8)))
		if f, _ := schema.Check(d); f != (api.Flaw{Message: -1, Field: -1, Code: api.FlawCount}) {
			t.Fatalf("%v with a message too many", f)
		}
	}
}

// TestFlawsWithFurtherMessages adds messages, right ones and wrong ones, behind one with a flaw.
func TestFlawsWithFurtherMessages(t *testing.T) {
	random := rand.New(rand.NewSource(55))
	for range 2000 {
		d, _, _ := randomDefinition(random)
		l := spoilers(d)
		x := l[random.Intn(len(l))]
		x.spoil(&d)
		flaw, found := schema.Check(d)
		if flaw != x.flaw || !found {
			t.Fatalf("%v, not %v, of %+v", flaw, x.flaw, d)
		}
		if flaw.Message < 0 {
			continue
		}
		for i := len(d.Messages); i < api.MaxMessages; i++ {
			d.Messages = append(d.Messages, []api.Message{{}, d.Messages[0], message(fmt.Sprintf("new%d", i), pad("p", 8)), message("?")}[random.Intn(4)])
		}
		if again, found := schema.Check(d); again != flaw || !found {
			t.Fatalf("%v, not %v, with further messages, of %+v", again, flaw, d)
		}
	}
}

// TestTwoFlawsOfRandomDefinitions spoils definitions twice: the first flaw in the order is found.
func TestTwoFlawsOfRandomDefinitions(t *testing.T) {
	random := rand.New(rand.NewSource(56))
	for range 2000 {
		d, _, _ := randomDefinition(random)
		l := spoilers(d)
		x, y := l[random.Intn(len(l))], l[random.Intn(len(l))]
		if sameName(x, y) {
			continue
		}
		x.spoil(&d)
		y.spoil(&d)
		want := x.flaw
		if slices.Compare(y.rank[:], x.rank[:]) < 0 {
			want = y.flaw
		}
		if f, found := schema.Check(d); f != want || !found {
			t.Fatalf("%v, not %v, of %v and %v in %+v", f, want, x.flaw, y.flaw, d)
		}
	}
}

func TestRandomCopies(t *testing.T) {
	random := rand.New(rand.NewSource(57))
	for range 200 {
		d, _, _ := randomDefinition(random)
		c := schema.Copy(d)
		if !schema.Equal(c, d) || !same(c, d) {
			t.Fatalf("%+v is no copy of %+v", c, d)
		}
		other, _, _ := randomDefinition(random)
		if schema.Equal(d, other) != same(d, other) {
			t.Fatalf("%+v and %+v", d, other)
		}
	}
}

func TestArgumentsStayAsTheyAre(t *testing.T) {
	random := rand.New(rand.NewSource(58))
	for i := range 300 {
		d, _, _ := randomDefinition(random)
		if i%2 == 0 {
			l := spoilers(d)
			l[random.Intn(len(l))].spoil(&d)
		}
		before := fmt.Sprintf("%+v", d)
		schema.Check(d)
		schema.Valid(d)
		schema.Find(d, "m1")
		schema.Depth(d, len(d.Messages)-1)
		schema.Strict(d, len(d.Messages)-1)
		schema.Equal(d, d)
		schema.Copy(d)
		for _, m := range d.Messages {
			schema.Field(m, "f1")
			schema.Ranges(m)
			for range schema.Refers(m) {
			}
			for _, f := range m.Fields {
				schema.Number(f)
				schema.HasValue(f)
				schema.Range(f)
				schema.Case(f, 1)
			}
		}
		if after := fmt.Sprintf("%+v", d); after != before {
			t.Fatalf("%s is no longer %s", after, before)
		}
	}
}
