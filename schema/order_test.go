package schema_test

import (
	"fmt"
	"math"
	"slices"
	"strings"
	"testing"

	"phrasebook/api"
	"phrasebook/schema"
)

// noNames are texts that are not names.
var noNames = []string{"", "1", "_", "_a", "9a", "a-b", "a b", " a", "a ", "a.b", "a\n", "a\x00", "\xFF", "a\xC3\xA4", strings.Repeat("a", 33), strings.Repeat("a", 100000)}

// names are texts that are names, other than those in definitions of the tests.
var names = []string{"Z", "aB_9", "x_", "X0", strings.Repeat("w", 32), "w" + strings.Repeat("_", 31)}

func TestNamesOfAll(t *testing.T) {
	for _, name := range names {
		d := tested()
		d.Name = name
		flawed(t, d, 0, 0, 0)
		d.Messages[6].Name, d.Start = name, name
		flawed(t, d, 0, 0, 0)
		d.Messages[6].Fields[1].Name = name
		flawed(t, d, 0, 0, 0)
	}
	for _, name := range noNames {
		d := tested()
		d.Name = name
		flawed(t, d, -1, -1, api.FlawName)
		d = tested()
		d.Messages[7].Name = name
		flawed(t, d, 7, -1, api.FlawName)
		d = tested()
		d.Messages[0].Name = name
		flawed(t, d, 0, -1, api.FlawName)
		d = tested()
		d.Messages[6].Fields[5].Name = name
		flawed(t, d, 6, 5, api.FlawName)
		d.Messages[6].Fields[0].Name = name
		flawed(t, d, 6, 0, api.FlawName)
	}
}

func TestNamesThatOccurBefore(t *testing.T) {
	for i := 1; i < 8; i++ {
		for j := range i {
			d := tested()
			d.Messages[i].Name = d.Messages[j].Name
			flawed(t, d, i, -1, api.FlawTwice)
			d.Messages[i].Fields = nil
			flawed(t, d, i, -1, api.FlawTwice)
		}
	}
	fields := tested().Messages[6].Fields
	for i := 1; i < len(fields); i++ {
		for j := range i {
			d := tested()
			d.Messages[6].Fields[i].Name = fields[j].Name
			flawed(t, d, 6, i, api.FlawTwice)
			d.Messages[6].Fields[i].Kind = 13
			flawed(t, d, 6, i, api.FlawTwice)
		}
	}
	// Names are compared by bytes.
	flawed(t, defined("M", message("m", pad("p", 8), pad("P", 8), pad("pp", 8)), message("M", pad("p", 8))), 0, 0, 0)
}

func TestNumberOfMessages(t *testing.T) {
	for n, right := range map[int]bool{0: false, 1: true, 2: true, 59: true, 60: true, 61: false, 62: false, 120: false, 100000: false} {
		d := api.Definition{Name: "d", Start: "m0"}
		for i := range n {
			d.Messages = append(d.Messages, message(fmt.Sprintf("m%d", i), pad("p", 8)))
		}
		if right {
			flawed(t, d, 0, 0, 0)
			continue
		}
		flawed(t, d, -1, -1, api.FlawCount)
		d.Start = "none"
		flawed(t, d, -1, -1, api.FlawCount)
		if n > 0 {
			d.Messages[0] = message("")
			flawed(t, d, -1, -1, api.FlawCount)
		}
		d.Name = ""
		flawed(t, d, -1, -1, api.FlawName)
	}
	flawed(t, api.Definition{}, -1, -1, api.FlawName)
	flawed(t, api.Definition{Name: "d", Messages: []api.Message{}}, -1, -1, api.FlawCount)
}

func TestNumberOfFields(t *testing.T) {
	for n, right := range map[int]bool{0: false, 1: true, 39: true, 40: true, 41: false, 80: false, 100000: false} {
		m := api.Message{Name: "m"}
		for i := range n {
			m.Fields = append(m.Fields, pad(fmt.Sprintf("f%d", i), 8))
		}
		d := defined("m", message("a", pad("p", 8)), m)
		if right {
			flawed(t, d, 0, 0, 0)
			continue
		}
		flawed(t, d, 1, -1, api.FlawCount)
		if n > 0 {
			m.Fields[0] = api.Field{}
			flawed(t, d, 1, -1, api.FlawCount)
		}
	}
}

func TestStart(t *testing.T) {
	for _, start := range []string{"", "d", "n", "x", "T", "tt", "1", "a ", strings.Repeat("a", 33)} {
		d := tested()
		d.Start = start
		flawed(t, d, -1, -1, api.FlawStart)
		d.Messages[7].Fields[0].Bits = 33
		flawed(t, d, 7, 0, api.FlawBits)
	}
	for _, start := range []string{"a", "p", "lv", "lh", "ll", "lc", "t", "behind"} {
		d := tested()
		d.Start = start
		flawed(t, d, 0, 0, 0)
	}
}

// chain returns a definition of some messages m0, m1 .. of which each one contains the one before it.
func chain(n int) api.Definition {
	d := defined("m0", message("m0", unsigned("n", 8, 0, 1), pad("p", 8)))
	for i := 1; i < n; i++ {
		name, of := fmt.Sprintf("m%d", i), fmt.Sprintf("m%d", i-1)
		within := []api.Field{nested("f", of), list("f", of, 1), view("f", of, 0, 1), choice("f", "n", api.Case{Low: 0, High: 0, Of: "m0"}, api.Case{Low: 1, High: 1, Of: of})}[i%4]
		d.Messages = append(d.Messages, message(name, unsigned("n", 8, 0, 1), within))
	}
	return d
}

func TestDepthFlaw(t *testing.T) {
	flawed(t, chain(16), 0, 0, 0)
	flawed(t, chain(17), 16, -1, api.FlawDepth)
	flawed(t, chain(60), 16, -1, api.FlawDepth)
	// It comes behind the flaws of the fields, and before those of later messages and of the start.
	d := chain(18)
	d.Start = "none"
	d.Messages[17].Name = ""
	flawed(t, d, 16, -1, api.FlawDepth)
	d.Messages[16].Fields = append(d.Messages[16].Fields, api.Field{})
	flawed(t, d, 16, 2, api.FlawName)
	// Messages that are only as deep as others do not matter.
	d = chain(16)
	d.Messages = append(d.Messages, message("x", nested("a", "m0"), nested("b", "m14"), nested("c", "m3")))
	flawed(t, d, 0, 0, 0)
	d.Messages[16].Fields[0].Of = "m15"
	flawed(t, d, 16, -1, api.FlawDepth)
	// Nor do messages that are many, but not inside of each other.
	d = chain(1)
	for i := range 59 {
		d.Messages = append(d.Messages, message(fmt.Sprintf("x%d", i), nested("f", "m0")))
	}
	flawed(t, d, 0, 0, 0)
}

// spoiler spoils a definition at one place, in the order of flaws; none makes a flaw ahead of its
// own one.
type spoiler struct {
	rank  [3]int // message, field and condition of the flaw, each greater than what comes before it
	flaw  api.Flaw
	spoil func(d *api.Definition)
}

const last = math.MaxInt

// spoilers returns all ways to spoil a valid definition.
func spoilers(d api.Definition) []spoiler {
	whole := func(message, condition int, code api.FlawCode, spoil func(d *api.Definition)) spoiler {
		return spoiler{[3]int{message, -1, condition}, api.Flaw{Message: -1, Field: -1, Code: code}, spoil}
	}
	l := []spoiler{
		whole(-1, 0, api.FlawName, func(d *api.Definition) { d.Name += "-" }),
		whole(-1, 1, api.FlawCount, func(d *api.Definition) { d.Messages = append(d.Messages, make([]api.Message, 60)...) }),
		whole(last, 0, api.FlawStart, func(d *api.Definition) { d.Start = "not_there" }),
	}
	for i, m := range d.Messages {
		l = append(l, messageSpoilers(i)...)
		for j, f := range m.Fields {
			l = append(l, fieldSpoilers(i, j, f)...)
		}
	}
	return l
}

func messageSpoilers(i int) []spoiler {
	own := func(condition int, code api.FlawCode, spoil func(l []api.Message)) spoiler {
		return spoiler{[3]int{i, -1, condition}, api.Flaw{Message: i, Field: -1, Code: code}, func(d *api.Definition) { spoil(d.Messages) }}
	}
	l := []spoiler{
		own(0, api.FlawName, func(l []api.Message) { l[i].Name = "?" }),
		own(2, api.FlawCount, func(l []api.Message) { l[i].Fields = append(l[i].Fields, make([]api.Field, 40)...) }),
	}
	if i > 0 {
		l = append(l, own(1, api.FlawTwice, func(l []api.Message) { l[i].Name = l[i/2].Name }))
	}
	return l
}

func fieldSpoilers(i, j int, f api.Field) []spoiler {
	own := func(condition int, code api.FlawCode, spoil func(l []api.Field)) spoiler {
		return spoiler{[3]int{i, j, condition}, api.Flaw{Message: i, Field: j, Code: code}, func(d *api.Definition) { spoil(d.Messages[i].Fields) }}
	}
	l := []spoiler{
		own(0, api.FlawName, func(l []api.Field) { l[j].Name = "" }),
		own(2, api.FlawKind, func(l []api.Field) { l[j].Kind = 13 }),
	}
	if j > 0 {
		l = append(l, own(1, api.FlawTwice, func(l []api.Field) { l[j].Name = l[j/2].Name }))
	}
	if f.Kind != api.KindView {
		l = append(l, own(3, api.FlawUnused, func(l []api.Field) { l[j].Key = 1 }))
	}
	if f.Kind != api.KindChoice {
		l = append(l, own(3, api.FlawUnused, func(l []api.Field) { l[j].Cases = make([]api.Case, 1) }))
	}
	code, spoil := conditionSpoiler(f.Kind)
	return append(l, own(4, code, func(l []api.Field) { spoil(&l[j]) }))
}

// conditionSpoiler returns a way to break a condition of a kind.
func conditionSpoiler(kind api.Kind) (api.FlawCode, func(f *api.Field)) {
	switch kind {
	case api.KindUint, api.KindConst, api.KindPad:
		return api.FlawBits, func(f *api.Field) { f.Bits = -3 }
	case api.KindVarint, api.KindUntil, api.KindHeaders:
		return api.FlawRange, func(f *api.Field) { f.High = -1 }
	case api.KindBytes:
		return api.FlawSize, func(f *api.Field) { f.Size = sized(-1) }
	case api.KindChoice:
		return api.FlawRefer, func(f *api.Field) { f.Tag = "not_there" }
	case api.KindCheck:
		return api.FlawRange, func(f *api.Field) { f.Check = 4 }
	case api.KindView:
		return api.FlawRange, func(f *api.Field) { f.Key = -1 }
	}
	return api.FlawRefer, func(f *api.Field) { f.Of = "not_there" }
}

// full returns the definition of the message t with a field of each kind.
func full() api.Definition {
	byKind := map[api.Kind]api.Field{}
	for _, f := range rightFields() {
		byKind[f.Kind] = f
	}
	var l []api.Field
	for i, kind := range kinds {
		f := byKind[kind]
		f.Name = fmt.Sprintf("x%d", i)
		l = append(l, f)
	}
	return tested(l...)
}

func TestEachSpoiler(t *testing.T) {
	flawed(t, full(), 0, 0, 0)
	for _, x := range spoilers(full()) {
		d := full()
		x.spoil(&d)
		flawed(t, d, x.flaw.Message, x.flaw.Field, x.flaw.Code)
	}
}

// TestFirstOfTwoFlaws spoils a definition twice: the flaw that is first in the order is found.
func TestFirstOfTwoFlaws(t *testing.T) {
	all := spoilers(full())
	for _, x := range all {
		for _, y := range all {
			if sameName(x, y) {
				continue
			}
			d := full()
			x.spoil(&d)
			y.spoil(&d)
			first := x.flaw
			if slices.Compare(y.rank[:], x.rank[:]) < 0 {
				first = y.flaw
			}
			if f, _ := schema.Check(d); f != first {
				t.Fatalf("%v, not %v, of %v and %v", f, first, x.flaw, y.flaw)
			}
		}
	}
}

// sameName reports whether two spoilers change the same name, so that one undoes the other.
func sameName(x, y spoiler) bool {
	named := func(s spoiler) bool { return s.flaw.Code == api.FlawName || s.flaw.Code == api.FlawTwice }
	return named(x) && named(y) && x.rank[0] == y.rank[0] && x.rank[1] == y.rank[1]
}
