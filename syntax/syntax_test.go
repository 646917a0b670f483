package syntax_test

import (
	"reflect"
	"strings"
	"testing"

	"phrasebook/api"
	"phrasebook/schema"
	"phrasebook/syntax"
	"phrasebook/token"
)

// whole is a printed text.
const whole = `protocol all_9;
message a {
  n: uint 8 1..9;
}
message Longest_name_of_all_that_exist_0 {
  t: uint 3 0..7;
  p: pad 8;
  c: const 16 little = 513;
  v: varint 0..300 loose;
  w: varint 5..6;
  u: until 10 max 20;
  h: headers max 100 loose;
  b: bytes [2*v+4];
  l: list [t] of a;
  x: message a;
  s: choice t { 0..3: a; 5..5: a; };
  k: check 2 from c;
  y: view [3] of a key 77;
}
start Longest_name_of_all_that_exist_0;
`

// wholeDefinition is the definition with that text.
func wholeDefinition() api.Definition {
	return api.Definition{Name: "all_9", Start: "Longest_name_of_all_that_exist_0", Messages: []api.Message{
		{Name: "a", Fields: []api.Field{{Name: "n", Kind: api.KindUint, Bits: 8, Low: 1, High: 9}}},
		{Name: "Longest_name_of_all_that_exist_0", Fields: []api.Field{
			{Name: "t", Kind: api.KindUint, Bits: 3, High: 7},
			{Name: "p", Kind: api.KindPad, Bits: 8},
			{Name: "c", Kind: api.KindConst, Bits: 16, Little: true, Low: 513},
			{Name: "v", Kind: api.KindVarint, High: 300, Loose: true},
			{Name: "w", Kind: api.KindVarint, Low: 5, High: 6},
			{Name: "u", Kind: api.KindUntil, Low: 10, High: 20},
			{Name: "h", Kind: api.KindHeaders, High: 100, Loose: true},
			{Name: "b", Kind: api.KindBytes, Size: sized(4, term(2, "v"))},
			{Name: "l", Kind: api.KindList, Of: "a", Size: sized(0, term(1, "t"))},
			{Name: "x", Kind: api.KindMessage, Of: "a"},
			{Name: "s", Kind: api.KindChoice, Tag: "t", Cases: []api.Case{{Low: 0, High: 3, Of: "a"}, {Low: 5, High: 5, Of: "a"}}},
			{Name: "k", Kind: api.KindCheck, Check: 2, From: "c"},
			{Name: "y", Kind: api.KindView, Of: "a", Size: sized(3), Key: 77},
		}},
	}}
}

func sized(base int, terms ...api.Term) api.Size { return api.Size{Base: base, Terms: terms} }

func term(factor int, field string) api.Term { return api.Term{Field: field, Factor: factor} }

func place(line, column int) token.Place { return token.Place{Line: line, Column: column} }

// placeOf returns the place of an offset in a text.
func placeOf(text string, offset int) token.Place {
	ahead := text[:offset]
	return place(1+strings.Count(ahead, "\n"), offset-strings.LastIndex(ahead, "\n"))
}

// read checks that a text has a definition.
func read(t *testing.T, text string, want api.Definition) {
	t.Helper()
	d, at, e := syntax.Parse(text)
	if !schema.Equal(d, want) || at != (token.Place{}) || e != api.OK {
		t.Fatalf("%.500q: %+v at %v, code %d, not %+v", text, d, at, e, want)
	}
}

// written checks that a definition has a printed text.
func written(t *testing.T, d api.Definition, want string) {
	t.Helper()
	if text, e := syntax.Print(d); text != want || e != api.OK {
		t.Fatalf("%+v: %q, code %d, not %q", d, text, e, want)
	}
}

// formatted checks that a text has the same definition as a printed one.
func formatted(t *testing.T, text, want string) {
	t.Helper()
	if got, at, e := syntax.Format(text); got != want || at != (token.Place{}) || e != api.OK {
		t.Fatalf("%.500q: %q at %v, code %d, not %q", text, got, at, e, want)
	}
}

// refused checks that each function has an error for a text, and nothing else but, where the
// chapter says so, its place.
func refused(t *testing.T, text string, at token.Place, code api.Errno) {
	t.Helper()
	d, p, e := syntax.Parse(text)
	if !reflect.ValueOf(d).IsZero() || p != at || e != code {
		t.Fatalf("%.500q is parsed: %+v at %v, code %d, not at %v, code %d", text, d, p, e, at, code)
	}
	s, p, e := syntax.Format(text)
	if s != "" || p != at || e != code {
		t.Fatalf("%.500q is formatted: %q at %v, code %d, not at %v, code %d", text, s, p, e, at, code)
	}
	for _, x := range [][2]int{{0, 0}, {0, -1}, {-1, -1}, {99, 99}} {
		if p, e := syntax.Where(text, x[0], x[1]); p != (token.Place{}) || e != code {
			t.Fatalf("%.500q has a field %v at %v, code %d, not code %d", text, x, p, e, code)
		}
	}
	for p, s := range syntax.Names(text) {
		t.Fatalf("%.500q has the name %q at %v", text, s, p)
	}
}

func TestWhole(t *testing.T) {
	read(t, whole, wholeDefinition())
	written(t, wholeDefinition(), whole)
	formatted(t, whole, whole)
}

func TestExamples(t *testing.T) {
	const text = "protocol d; message m { n: uint 8 0..255; b: bytes [n]; } start m;"
	d := api.Definition{Name: "d", Start: "m", Messages: []api.Message{{Name: "m", Fields: []api.Field{
		{Name: "n", Kind: api.KindUint, Bits: 8, High: 255},
		{Name: "b", Kind: api.KindBytes, Size: sized(0, term(1, "n"))},
	}}}}
	read(t, text, d)
	written(t, d, "protocol d;\nmessage m {\n  n: uint 8 0..255;\n  b: bytes [n];\n}\nstart m;\n")
	refused(t, strings.Replace(text, "255", "256", 1), place(1, 25), api.ErrArg)
	refused(t, strings.Replace(text, "[n]", "[n-1]", 1), place(1, 43), api.ErrArg)
	refused(t, strings.Replace(text, "start m", "start x", 1), place(1, 65), api.ErrArg)
	refused(t, "protocol d message", place(1, 12), api.ErrFormat)
	refused(t, strings.TrimSuffix(text, ";"), place(1, 66), api.ErrShort)
	refused(t, strings.Replace(text, "[n]", "[n+]", 1), place(1, 53), api.ErrFormat)
}

// frame is a text with a field f, behind some fields to which it may refer.
const frame = "protocol p;\nmessage a {\n  x: pad 8;\n}\nmessage a2 {\n  x: pad 2;\n}\nmessage m {\n" +
	"  n: uint 4 0..15;\n  q: pad 4;\n  n2: varint 0..9;\n  c: const 8 = 7;\n  c2: const 8 = 1;\n  f: %;\n}\nstart m;\n"

func framed(field string) string { return strings.Replace(frame, "%", field, 1) }

func TestKinds(t *testing.T) {
	long := "choice n { 0..0: a; 1..1: a2; 2..2: a; 3..3: a; 4..4: a; 5..5: a; 6..6: a; 7..7: a; 8..8: a; 9..9: a; 10..10: a; 11..15: a2; }"
	of := func(low, high int) api.Case { return api.Case{Low: low, High: high, Of: "a"} }
	for text, want := range map[string]api.Field{
		"uint 1 0..0":                     {Kind: api.KindUint, Bits: 1},
		"uint 1 0..1":                     {Kind: api.KindUint, Bits: 1, High: 1},
		"uint 8 7..7":                     {Kind: api.KindUint, Bits: 8, Low: 7, High: 7},
		"uint 16 2..300":                  {Kind: api.KindUint, Bits: 16, Low: 2, High: 300},
		"uint 16 little 2..300":           {Kind: api.KindUint, Bits: 16, Little: true, Low: 2, High: 300},
		"uint 24 little 0..9":             {Kind: api.KindUint, Bits: 24, Little: true, High: 9},
		"uint 32 little 1..4294967295":    {Kind: api.KindUint, Bits: 32, Little: true, Low: 1, High: 1<<32 - 1},
		"uint 32 4294967295..4294967295":  {Kind: api.KindUint, Bits: 32, Low: 1<<32 - 1, High: 1<<32 - 1},
		"const 1 = 0":                     {Kind: api.KindConst, Bits: 1},
		"const 3 = 7":                     {Kind: api.KindConst, Bits: 3, Low: 7},
		"const 32 = 4294967295":           {Kind: api.KindConst, Bits: 32, Low: 1<<32 - 1},
		"const 16 little = 0":             {Kind: api.KindConst, Bits: 16, Little: true},
		"const 24 little = 65537":         {Kind: api.KindConst, Bits: 24, Little: true, Low: 65537},
		"varint 0..0":                     {Kind: api.KindVarint},
		"varint 3..34359738367":           {Kind: api.KindVarint, Low: 3, High: 1<<35 - 1},
		"varint 3..34359738367 loose":     {Kind: api.KindVarint, Low: 3, High: 1<<35 - 1, Loose: true},
		"varint 0..1 loose":               {Kind: api.KindVarint, High: 1, Loose: true},
		"bytes [0]":                       {Kind: api.KindBytes},
		"bytes [1048576]":                 {Kind: api.KindBytes, Size: sized(1 << 20)},
		"bytes [n]":                       {Kind: api.KindBytes, Size: sized(0, term(1, "n"))},
		"bytes [65536*n]":                 {Kind: api.KindBytes, Size: sized(0, term(65536, "n"))},
		"bytes [-n+15]":                   {Kind: api.KindBytes, Size: sized(15, term(-1, "n"))},
		"bytes [c-7]":                     {Kind: api.KindBytes, Size: sized(-7, term(1, "c"))},
		"bytes [2*n+3*n2-c2+5*c-1]":       {Kind: api.KindBytes, Size: sized(-1, term(2, "n"), term(3, "n2"), term(-1, "c2"), term(5, "c"))},
		"bytes [n2+n]":                    {Kind: api.KindBytes, Size: sized(0, term(1, "n2"), term(1, "n"))},
		"bytes [-10*n2+n+90]":             {Kind: api.KindBytes, Size: sized(90, term(-10, "n2"), term(1, "n"))},
		"until 0 max 0":                   {Kind: api.KindUntil},
		"until 255 max 1048576":           {Kind: api.KindUntil, Low: 255, High: 1 << 20},
		"until 10 max 3":                  {Kind: api.KindUntil, Low: 10, High: 3},
		"headers max 2":                   {Kind: api.KindHeaders, High: 2},
		"headers max 1048576 loose":       {Kind: api.KindHeaders, High: 1 << 20, Loose: true},
		"list [n] of a":                   {Kind: api.KindList, Of: "a", Size: sized(0, term(1, "n"))},
		"list [0] of a2":                  {Kind: api.KindList, Of: "a2"},
		"list [2*n+1] of a2":              {Kind: api.KindList, Of: "a2", Size: sized(1, term(2, "n"))},
		"message a":                       {Kind: api.KindMessage, Of: "a"},
		"message a2":                      {Kind: api.KindMessage, Of: "a2"},
		"choice n { 0..15: a; }":          {Kind: api.KindChoice, Tag: "n", Cases: []api.Case{of(0, 15)}},
		"choice n2 { 3..4: a; 6..6: a; }": {Kind: api.KindChoice, Tag: "n2", Cases: []api.Case{of(3, 4), of(6, 6)}},
		"choice c { 7..7: a2; }":          {Kind: api.KindChoice, Tag: "c", Cases: []api.Case{{Low: 7, High: 7, Of: "a2"}}},
		long: {Kind: api.KindChoice, Tag: "n", Cases: []api.Case{of(0, 0), {Low: 1, High: 1, Of: "a2"}, of(2, 2), of(3, 3), of(4, 4),
			of(5, 5), of(6, 6), of(7, 7), of(8, 8), of(9, 9), of(10, 10), {Low: 11, High: 15, Of: "a2"}}},
		"pad 2":                            {Kind: api.KindPad, Bits: 2},
		"pad 512":                          {Kind: api.KindPad, Bits: 512},
		"check 1 from n":                   {Kind: api.KindCheck, Check: 1, From: "n"},
		"check 3 from q":                   {Kind: api.KindCheck, Check: 3, From: "q"},
		"view [n] of a key 0":              {Kind: api.KindView, Of: "a", Size: sized(0, term(1, "n"))},
		"view [0] of a2 key 1":             {Kind: api.KindView, Of: "a2", Key: 1},
		"view [-n2+9] of a key 4294967295": {Kind: api.KindView, Of: "a", Size: sized(9, term(-1, "n2")), Key: 1<<32 - 1},
	} {
		d, at, e := syntax.Parse(framed(text))
		if e != api.OK || at != (token.Place{}) || len(d.Messages) != 3 || len(d.Messages[2].Fields) != 6 {
			t.Errorf("%s: %+v at %v, code %d", text, d, at, e)
			continue
		}
		want.Name = "f"
		last := api.Definition{Messages: []api.Message{{Fields: d.Messages[2].Fields[5:]}}}
		if !schema.Equal(last, api.Definition{Messages: []api.Message{{Fields: []api.Field{want}}}}) {
			t.Errorf("%s: %+v, not %+v", text, last.Messages[0].Fields[0], want)
		}
		d.Messages[2].Fields[5] = want
		written(t, d, framed(text))
	}
}

func TestSameDefinition(t *testing.T) {
	for text, want := range map[string]string{
		"uint 0x8 0x0..0xfF":                       "uint 8 0..255",
		"uint 32 little 0..0xFFFFFFFF":             "uint 32 little 0..4294967295",
		"uint 0x000010 0x0..0x00A":                 "uint 16 0..10",
		"const 8=9":                                "const 8 = 9",
		"const 0x10 little=0x0201":                 "const 16 little = 513",
		"varint 0 .. 5":                            "varint 0..5",
		"varint 0..5\tloose":                       "varint 0..5 loose",
		"bytes[n]":                                 "bytes [n]",
		"bytes [ 2 * n\n-\tc2 # ]\r\n + 7 ]":       "bytes [2*n-c2+7]",
		"bytes [\n- n + 15\n]":                     "bytes [-n+15]",
		"bytes [n#\n]":                             "bytes [n]",
		"until 0xA max 0x14":                       "until 10 max 20",
		"headers   max  4   loose":                 "headers max 4 loose",
		"list[n]of a":                              "list [n] of a",
		"choice n{0..3:a;5..5:a2;}":                "choice n { 0..3: a; 5..5: a2; }",
		"choice n\n{\n\n0x0 .. 0x3 : a ;\n}\n":     "choice n { 0..3: a; }",
		"check 0x2 from c":                         "check 2 from c",
		"view [3]of a key 0x4D":                    "view [3] of a key 77",
		"pad 0x200":                                "pad 512",
		"#\n\n#message ;\nmessage # \"\n a # } ; ": "message a",
	} {
		whole := framed(want)
		if strings.HasSuffix(text, "; ") {
			text += "\n"
		}
		formatted(t, framed(text), whole)
		d, _, _ := syntax.Parse(whole)
		read(t, framed(text), d)
		flat := strings.NewReplacer(";\n", ";", "{\n", "{", "}\n", "}").Replace(whole)
		flat = strings.NewReplacer("  ", "", ": ", ":", "; ", ";", " {", "{").Replace(flat)
		formatted(t, flat, whole)
	}
}

// TestNamesAreAnyWords checks that what has a meaning elsewhere may be a name.
func TestNamesAreAnyWords(t *testing.T) {
	for _, word := range strings.Fields("protocol message start uint const varint bytes until headers list choice pad check view little loose max of from key d A Z_9") {
		text := "protocol % ;\nmessage % {\n  % : uint 8 0..1;\n}\nmessage s {\n  % : varint 0..9;\n  b: bytes [2*%];\n  c: choice % { 0..1: %; };\n  l: list [%] of %;\n  m: message %;\n  k: check 1 from %;\n  v: view [%] of % key 0;\n}\nstart % ;\n"
		text = strings.ReplaceAll(text, "%", word)
		printed := strings.NewReplacer(" ;", ";", " : ", ": ").Replace(text)
		formatted(t, text, printed)
		d, _, _ := syntax.Parse(text)
		if d.Name != word || d.Start != word || d.Messages[0].Name != word || d.Messages[1].Fields[0].Name != word || d.Messages[1].Fields[1].Size.Terms[0].Field != word {
			t.Errorf("%s: %+v", word, d)
		}
	}
}

func TestResultsShareNoMemory(t *testing.T) {
	a, _, _ := syntax.Parse(whole)
	b, _, _ := syntax.Parse(whole)
	for _, m := range a.Messages {
		for i, f := range m.Fields {
			for j := range f.Cases {
				f.Cases[j] = api.Case{}
			}
			for j := range f.Size.Terms {
				f.Size.Terms[j] = api.Term{}
			}
			m.Fields[i] = api.Field{}
		}
	}
	if !schema.Equal(b, wholeDefinition()) {
		t.Error("definitions share memory")
	}
	read(t, whole, b)
	d := wholeDefinition()
	written(t, d, whole)
	if !schema.Equal(d, b) {
		t.Error("printing changes a definition")
	}
}

func TestPrintOfWrongDefinitions(t *testing.T) {
	for i, change := range []func(d *api.Definition){
		func(d *api.Definition) { *d = api.Definition{} },
		func(d *api.Definition) { d.Name = "" },
		func(d *api.Definition) { d.Name = "a b" },
		func(d *api.Definition) { d.Start = "b" },
		func(d *api.Definition) { d.Messages = nil },
		func(d *api.Definition) { d.Messages[0].Fields = nil },
		func(d *api.Definition) { d.Messages[0].Name = "1" },
		func(d *api.Definition) { d.Messages[1].Fields[0].Name = "t;" },
		func(d *api.Definition) { d.Messages[1].Fields[0].Name = strings.Repeat("t", 33) },
		func(d *api.Definition) { d.Messages[1].Fields[0].Kind = 0 },
		func(d *api.Definition) { d.Messages[1].Fields[0].Kind = 13 },
		func(d *api.Definition) { d.Messages[1].Fields[0].Loose = true },
		func(d *api.Definition) { d.Messages[1].Fields[0].High = 8 },
		func(d *api.Definition) { d.Messages[1].Fields[7].Size.Terms[0].Factor = 0 },
		func(d *api.Definition) { d.Messages[1].Fields[10].Cases = nil },
		func(d *api.Definition) { d.Messages[1].Fields[12].Key = -1 },
		func(d *api.Definition) { d.Messages[1].Fields[12].Of = d.Start },
	} {
		d := wholeDefinition()
		change(&d)
		if text, e := syntax.Print(d); text != "" || e != api.ErrArg {
			t.Errorf("%d: %q, code %d", i, text, e)
		}
	}
}
