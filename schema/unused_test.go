package schema_test

import (
	"math"
	"reflect"
	"slices"
	"strings"
	"testing"

	"phrasebook/api"
)

// rightFields returns a right field of each kind for the message t, with the parts that its kind
// uses (those of a Size are Base and Terms).
func rightFields() map[string]api.Field {
	return map[string]api.Field{
		"Bits Little Low High": unsigned("x", 16, 1, 9),
		"Bits Little Low":      constant("x", 24, 7),
		"Loose Low High":       varint("x", 1, 9),
		"Base Terms":           octets("x", 3, term(1, "n")),
		"Low High":             {Name: "x", Kind: api.KindUntil, Low: 1, High: 9},
		"Loose High":           {Name: "x", Kind: api.KindHeaders, High: 9},
		"Of Base Terms":        list("x", "a", 3, term(1, "n")),
		"Of":                   nested("x", "a"),
		"Tag Cases":            choice("x", "n", api.Case{Low: 1, High: 1, Of: "a"}),
		"Bits":                 pad("x", 8),
		"From Check":           checksum("x", 1, "n"),
		"Of Base Terms Key":    view("x", "a", 9, 3, term(1, "n")),
	}
}

// fillings returns what may stand in a part, in all ways in which it is not zero.
func fillings(part string) []any {
	switch part {
	case "Little", "Loose":
		return []any{true}
	case "Of", "Tag", "From":
		return []any{"a", "n", "x", "none", " ", "\x00"}
	case "Cases":
		return []any{[]api.Case{{}}, []api.Case{{Low: 1, High: 1, Of: "a"}}, make([]api.Case, 50)}
	case "Terms":
		return []any{[]api.Term{{}}, []api.Term{term(1, "n")}, make([]api.Term, 9)}
	}
	return []any{1, -1, 3, 8, math.MaxInt, math.MinInt}
}

var allParts = strings.Fields("Bits Little Loose Low High Base Terms Of Tag From Cases Check Key")

// part returns a part of a field.
func part(f *api.Field, name string) reflect.Value {
	if name == "Base" || name == "Terms" {
		return reflect.ValueOf(&f.Size).Elem().FieldByName(name)
	}
	return reflect.ValueOf(f).Elem().FieldByName(name)
}

func TestUnusedParts(t *testing.T) {
	seen := map[api.Kind]bool{}
	for uses, f := range rightFields() {
		with(t, f, 0)
		seen[f.Kind] = true
		for _, name := range allParts {
			if slices.Contains(strings.Fields(uses), name) {
				continue
			}
			for _, filling := range fillings(name) {
				g := f
				part(&g, name).Set(reflect.ValueOf(filling))
				with(t, g, api.FlawUnused)
				// This comes before everything else that is wrong with the field.
				h := api.Field{Name: "x", Kind: f.Kind, Bits: 0}
				part(&h, name).Set(reflect.ValueOf(filling))
				with(t, h, api.FlawUnused)
			}
		}
	}
	if len(seen) != len(kinds) {
		t.Errorf("only the kinds %v", seen)
	}
}

func TestEmptyListsAreUnused(t *testing.T) {
	for uses, f := range rightFields() {
		if !strings.Contains(uses, "Cases") {
			f.Cases = []api.Case{}
		}
		if !strings.Contains(uses, "Terms") {
			f.Size.Terms = []api.Term{}
		}
		with(t, f, 0)
		f.Cases = make([]api.Case, 0, 9)
		f.Size.Terms = make([]api.Term, 0, 9)
		if !strings.Contains(uses, "Cases") && !strings.Contains(uses, "Terms") {
			with(t, f, 0)
		}
	}
}

func TestSeveralUnusedParts(t *testing.T) {
	for uses, f := range rightFields() {
		for _, name := range allParts {
			if !slices.Contains(strings.Fields(uses), name) {
				part(&f, name).Set(reflect.ValueOf(fillings(name)[0]))
			}
		}
		with(t, f, api.FlawUnused)
		f.Kind = 13
		with(t, f, api.FlawKind)
	}
}
