package span_test

import (
	"math/rand"
	"slices"
	"testing"

	"phrasebook/api"
	"phrasebook/scope"
	"phrasebook/span"
)

// order checks which messages with which spans an iterator yields, also when it is left early.
func order(t *testing.T, d api.Definition, want map[int]api.Range) {
	t.Helper()
	seq := span.Spans(d)
	for most := len(want) + 1; most >= 0; most-- {
		count, last := 0, -1
		for i, r := range seq {
			if w, is := want[i]; !is || r != w || i <= last {
				t.Errorf("message %d behind %d: %v, not %v", i, last, r, w)
			}
			count, last = count+1, i
			if count >= most {
				break
			}
		}
		if count != max(min(most, len(want)), min(1, len(want))) {
			t.Errorf("%d messages of %d", count, most)
		}
	}
	// Two loops at once do not disturb each other.
	count := 0
	for i := range seq {
		for j, r := range seq {
			if i == j && r == want[i] {
				count++
			}
		}
	}
	if count != len(want) {
		t.Errorf("%d messages of %d", count, len(want))
	}
}

const parts = `message a { x: uint 8 0..9; }
message b { x: uint 1 0..1; p: pad 2; }
message c { o: message a; q: message a; }
message e { n: uint 8 0..9; l: list [n] of a; }
message m { o: message e; q: message b; }`

func TestOrderOfSpans(t *testing.T) {
	for start, want := range map[string]map[int]api.Range{
		"a": {0: exactly(8)},
		"b": {1: exactly(2)},
		"c": {0: exactly(8), 2: exactly(16)},
		"e": {0: exactly(8), 3: between(8, 80)},
		"m": {0: exactly(8), 1: exactly(2), 3: between(8, 80), 4: between(10, 82)},
	} {
		d := defined(t, parts)
		d.Start = start
		order(t, d, want)
	}
	order(t, api.Definition{}, nil)
	d := defined(t, parts)
	d.Messages[1].Fields[1].Bits = 3
	order(t, d, nil)
}

// TestSpansOfTheTime changes a definition behind the call: the iterator does not change.
func TestSpansOfTheTime(t *testing.T) {
	for _, change := range []func(*api.Definition){
		func(d *api.Definition) { d.Messages[0].Fields[0].Bits = 32 },
		func(d *api.Definition) { d.Messages[3].Fields[1].Size = api.Size{} },
		func(d *api.Definition) { d.Messages[3].Fields[1].Size.Terms[0].Factor = 0 },
		func(d *api.Definition) { d.Messages[4].Fields[1].Of = "c" },
		func(d *api.Definition) { d.Messages[4].Name = "" },
		func(d *api.Definition) { d.Messages[1].Fields = nil },
		func(d *api.Definition) { clear(d.Messages) },
	} {
		d := defined(t, parts)
		seq := span.Spans(d)
		change(&d)
		want := []api.Range{0: exactly(8), 1: exactly(2), 3: between(8, 80), 4: between(10, 82)}
		for range 2 {
			count := 0
			for i, r := range seq {
				if i >= len(want) || r != want[i] {
					t.Errorf("%v of message %d", r, i)
				}
				count++
				change(&d)
			}
			if count != 4 {
				t.Errorf("%d messages", count)
			}
		}
	}
}

// TestSpans compares Spans with the messages that are reached, and their spans.
func TestSpans(t *testing.T) {
	random := rand.New(rand.NewSource(89))
	missed := 0
	for range 100 {
		d := randomDefinition(random)
		reached, _ := scope.Reach(d)
		missed += len(d.Messages) - len(reached)
		whole := all(t, d)
		var l []int
		for i, r := range span.Spans(d) {
			l = append(l, i)
			if r != whole[i] {
				t.Fatalf("%v, not %v, of message %d of %+v", r, whole[i], i, d)
			}
		}
		if !slices.Equal(l, reached) {
			t.Fatalf("%v, not %v, are reached in %+v", l, reached, d)
		}
	}
	if missed < 100 {
		t.Errorf("only %d messages are not reached", missed)
	}
}
