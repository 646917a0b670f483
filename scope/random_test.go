package scope_test

import (
	"fmt"
	"math/rand"
	"slices"
	"testing"

	"phrasebook/api"
	"phrasebook/schema"
	"phrasebook/scope"
)

// randomMessage returns a message in which names occur twice and are missing, and kinds do not exist.
func randomMessage(random *rand.Rand) api.Message {
	name := func() string { return string("abcdefgh"[random.Intn(8)]) }
	m := message("m")
	for range random.Intn(12) {
		f := api.Field{Name: name(), Kind: api.Kind(random.Intn(14)), Of: name(), Tag: name(), From: name()}
		for range random.Intn(5) {
			f.Size.Terms = append(f.Size.Terms, api.Term{Field: name(), Factor: random.Intn(3)})
		}
		m.Fields = append(m.Fields, f)
	}
	return m
}

// uses reports, as the chapter says it, whether a field of a message uses another one.
func uses(m api.Message, user, used int) bool {
	if first, _ := schema.Field(m, m.Fields[used].Name); first != used || used >= user {
		return false
	}
	f, name := m.Fields[user], m.Fields[used].Name
	switch f.Kind {
	case api.KindBytes, api.KindList, api.KindView:
		return slices.ContainsFunc(f.Size.Terms, func(t api.Term) bool { return t.Field == name })
	case api.KindChoice:
		return f.Tag == name
	case api.KindCheck:
		return f.From == name
	}
	return false
}

// TestRandomMessages compares the fields of messages two by two.
func TestRandomMessages(t *testing.T) {
	random := rand.New(rand.NewSource(71))
	count := 0
	for range 5000 {
		m := randomMessage(random)
		all := make([][]int, len(m.Fields))
		var unused []int
		for i, f := range m.Fields {
			isUsed := false
			for j := range m.Fields {
				if uses(m, i, j) {
					all[i] = append(all[i], j)
					count++
				}
				isUsed = isUsed || uses(m, j, i)
			}
			if schema.Number(f) && !isUsed {
				unused = append(unused, i)
			}
		}
		links(t, m, all...)
		free(t, m, unused...)
	}
	if count < 3000 {
		t.Errorf("only %d fields use others", count)
	}
}

// TestUsesAndUsers shows that both say the same, and that what is used comes first.
func TestUsesAndUsers(t *testing.T) {
	random := rand.New(rand.NewSource(72))
	for range 1000 {
		m := randomMessage(random)
		for i := range m.Fields {
			used, e := scope.Uses(m, i)
			if e != api.OK || !slices.IsSorted(used) || len(slices.Compact(slices.Clone(used))) != len(used) {
				t.Fatalf("%v, code %d, in %+v", used, e, m)
			}
			for j := range m.Fields {
				users, e := scope.Users(m, j)
				if slices.Contains(used, j) != slices.Contains(users, i) || slices.Contains(users, i) && i <= j || e != api.OK {
					t.Fatalf("%d uses %v, but %v use %d, in %+v", i, used, users, j, m)
				}
			}
		}
	}
}

// randomGraph returns a valid definition of messages that refer to others before them.
func randomGraph(random *rand.Rand) api.Definition {
	messages := 1 + random.Intn(14)
	if random.Intn(10) == 0 {
		messages = api.MaxMessages - random.Intn(2)*random.Intn(45)
	}
	width := 1 + random.Intn(messages)>>random.Intn(5)
	least := random.Intn(2)
	var refers [][]int
	depths := make([]int, messages)
	for i := range messages {
		var l []int
		for range least + random.Intn(4) {
			to := i - 1 - random.Intn(width)
			if to >= 0 && depths[to] < api.MaxDepth-1 {
				l = append(l, to)
				depths[i] = max(depths[i], depths[to]+1)
			}
		}
		refers = append(refers, l)
	}
	start := messages - 1
	if random.Intn(2) == 0 {
		start = random.Intn(messages)
	}
	return graph(start, refers...)
}

// bestPaths returns the first paths to all messages. It improves them until none can be improved.
func bestPaths(d api.Definition) map[string][]int {
	start, _ := schema.Find(d, d.Start)
	best := map[string][]int{d.Start: {start}}
	for improved := true; improved; {
		improved = false
		for _, m := range d.Messages {
			path, known := best[m.Name]
			if !known {
				continue
			}
			for name := range schema.Refers(m) {
				i, _ := schema.Find(d, name)
				longer := append(slices.Clone(path), i)
				other, known := best[name]
				if !known || len(longer) < len(other) || len(longer) == len(other) && slices.Compare(longer, other) < 0 {
					best[name], improved = longer, true
				}
			}
		}
	}
	return best
}

func TestRandomPaths(t *testing.T) {
	random := rand.New(rand.NewSource(73))
	longest, missed := 0, 0
	for range 1000 {
		d := randomGraph(random)
		if !schema.Valid(d) {
			t.Fatalf("%+v is not valid", d)
		}
		best := bestPaths(d)
		var want [][]int
		var found, others []int
		for i, m := range d.Messages {
			want = append(want, best[m.Name])
			longest = max(longest, len(best[m.Name]))
			if best[m.Name] == nil {
				others = append(others, i)
			} else {
				found = append(found, i)
			}
		}
		missed += len(others)
		reached(t, d, found, others)
		paths(t, d, want...)
	}
	if longest < 12 || missed < 1000 {
		t.Errorf("paths of %d messages at most, %d messages are not reached", longest, missed)
	}
}

// TestPathsAreChains shows that each message of a path refers to the next one.
func TestPathsAreChains(t *testing.T) {
	random := rand.New(rand.NewSource(74))
	for range 500 {
		d := randomGraph(random)
		l, _ := scope.Reach(d)
		for _, i := range l {
			path, e := scope.Path(d, i)
			if e != api.OK || len(path) == 0 || len(path) > api.MaxDepth || d.Messages[path[0]].Name != d.Start || path[len(path)-1] != i {
				t.Fatalf("%v, code %d, to %d in %+v", path, e, i, d)
			}
			for k, j := range path[1:] {
				if !slices.Contains(slices.Collect(schema.Refers(d.Messages[path[k]])), d.Messages[j].Name) {
					t.Fatalf("%d does not refer to %d in %+v", path[k], j, d)
				}
			}
		}
	}
}

func TestPrunedDefinitions(t *testing.T) {
	random := rand.New(rand.NewSource(75))
	for range 1000 {
		d := randomGraph(random)
		p, e := scope.Prune(d)
		if e != api.OK || !schema.Valid(p) {
			t.Fatalf("%+v, code %d, of %+v", p, e, d)
		}
		all, e := scope.Reach(p)
		others, f := scope.Unused(p)
		if len(all) != len(p.Messages) || len(others) != 0 || e != api.OK || f != api.OK {
			t.Fatalf("%v are not reached in %+v", others, p)
		}
		again, e := scope.Prune(p)
		if e != api.OK || !schema.Equal(again, p) {
			t.Fatalf("%+v, code %d, of %+v", again, e, p)
		}
		// Nothing else is left out: without one of its messages it is not valid.
		for i := range p.Messages {
			less := p
			less.Messages = slices.Delete(slices.Clone(p.Messages), i, i+1)
			if schema.Valid(less) {
				t.Fatalf("%s could be left out of %+v", p.Messages[i].Name, p)
			}
		}
	}
}

func TestArgumentsStayAsTheyAre(t *testing.T) {
	random := rand.New(rand.NewSource(76))
	for range 300 {
		d := randomGraph(random)
		d.Messages = append(d.Messages, randomMessage(random))
		if random.Intn(2) == 0 {
			d.Messages = d.Messages[:len(d.Messages)-1]
		}
		before := fmt.Sprintf("%+v", d)
		scope.Reach(d)
		scope.Unused(d)
		scope.Prune(d)
		for i, m := range d.Messages {
			scope.Path(d, i)
			for j := range m.Fields {
				scope.Uses(m, j)
				scope.Users(m, j)
			}
			for range scope.Free(m) {
			}
		}
		if after := fmt.Sprintf("%+v", d); after != before {
			t.Fatalf("%s is no longer %s", after, before)
		}
	}
}
