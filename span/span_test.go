package span_test

import (
	"fmt"
	"math"
	"strings"
	"testing"

	"phrasebook/api"
	"phrasebook/span"
	"phrasebook/syntax"
)

// defined returns the definition with a text of messages, of which m is the start.
func defined(t *testing.T, messages string) api.Definition {
	t.Helper()
	d, at, e := syntax.Parse("protocol d; " + messages + " start m;")
	if e != api.OK {
		t.Fatalf("code %d at %v of %s", e, at, messages)
	}
	return d
}

// exactly returns the range of a single number.
func exactly(n int) api.Range { return api.Range{Low: n, High: n} }

// between returns a range.
func between(low, high int) api.Range { return api.Range{Low: low, High: high} }

// outside are numbers that are not indices of a list.
func outside(length int) []int {
	return []int{math.MinInt, -1 << 40, -1 << 32, -2, -1, length, length + 1, length + 60, 1 << 32, 1 << 40, math.MaxInt}
}

// field is what is known of a field.
type field struct{ at, span api.Range }

// spans checks the positions and the spans of the fields of a message, and the span of the message.
func spans(t *testing.T, d api.Definition, message int, whole api.Range, fields ...field) {
	t.Helper()
	name := d.Messages[message].Name
	if len(fields) != len(d.Messages[message].Fields) {
		t.Fatalf("%d fields of %d of %s", len(fields), len(d.Messages[message].Fields), name)
	}
	for i, f := range fields {
		if r, e := span.Position(d, message, i); r != f.at || e != api.OK {
			t.Errorf("%s, field %d: position %v, code %d, not %v", name, i, r, e, f.at)
		}
		if r, e := span.Field(d, message, i); r != f.span || e != api.OK {
			t.Errorf("%s, field %d: span %v, code %d, not %v", name, i, r, e, f.span)
		}
	}
	weighed(t, d, message, whole)
}

// weighed checks the span of a message, and what follows from it.
func weighed(t *testing.T, d api.Definition, message int, whole api.Range) {
	t.Helper()
	name := d.Messages[message].Name
	if r, e := span.Message(d, message); r != whole || e != api.OK {
		t.Errorf("%s: span %v, code %d, not %v", name, r, e, whole)
	}
	// A byte more for what is left over at each end.
	length := between(whole.Low/8, whole.High/8)
	if whole.Low%8 > 0 {
		length.Low++
	}
	if whole.High%8 > 0 {
		length.High++
	}
	if r, e := span.Length(d, message); r != length || e != api.OK {
		t.Errorf("%s: length %v, code %d, not %v", name, r, e, length)
	}
	if is, e := span.Fixed(d, message); is != (whole.Low == whole.High) || e != api.OK {
		t.Errorf("%s: fixed %t, code %d, with %v", name, is, e, whole)
	}
}

// refused checks that nothing is said of a field but an error, and of its message.
func refused(t *testing.T, d api.Definition, message, field int, ofField, ofMessage api.Errno) {
	t.Helper()
	if r, e := span.Field(d, message, field); r != (api.Range{}) || e != ofField {
		t.Errorf("message %d, field %d: span %v, code %d, not %d", message, field, r, e, ofField)
	}
	if r, e := span.Position(d, message, field); r != (api.Range{}) || e != ofField {
		t.Errorf("message %d, field %d: position %v, code %d, not %d", message, field, r, e, ofField)
	}
	if ofMessage == api.OK {
		return
	}
	if r, e := span.Message(d, message); r != (api.Range{}) || e != ofMessage {
		t.Errorf("message %d: span %v, code %d, not %d", message, r, e, ofMessage)
	}
	if r, e := span.Length(d, message); r != (api.Range{}) || e != ofMessage {
		t.Errorf("message %d: length %v, code %d, not %d", message, r, e, ofMessage)
	}
	if is, e := span.Fixed(d, message); is || e != ofMessage {
		t.Errorf("message %d: fixed %t, code %d, not %d", message, is, e, ofMessage)
	}
}

// example is the text of the definition of the chapter's examples.
const example = `message a { n: uint 8 0..3; b: bytes [n]; }
message m { t: uint 3 0..2; p: pad 8; v: varint 0..300; l: list [t+1] of a; k: check 3 from t; }`

func TestExamples(t *testing.T) {
	d := defined(t, example)
	spans(t, d, 0, between(8, 32),
		field{exactly(0), exactly(8)}, field{exactly(8), between(0, 24)})
	spans(t, d, 1, between(56, 152),
		field{exactly(0), exactly(3)}, field{exactly(3), between(0, 7)}, field{exactly(8), between(8, 16)},
		field{between(16, 24), between(8, 96)}, field{between(24, 120), exactly(32)})
	if r, e := span.Length(d, 0); r != between(1, 4) || e != api.OK {
		t.Errorf("%v, code %d", r, e)
	}
	if is, e := span.Fixed(d, 0); is || e != api.OK {
		t.Errorf("%t, code %d", is, e)
	}
}

func TestErrors(t *testing.T) {
	d := defined(t, example)
	for i, m := range d.Messages {
		for _, j := range outside(len(m.Fields)) {
			refused(t, d, i, j, api.ErrRange, api.OK)
		}
	}
	for _, i := range outside(len(d.Messages)) {
		for _, j := range append(outside(2), 0, 1, 2) {
			refused(t, d, i, j, api.ErrRange, api.ErrRange)
		}
	}
}

// TestNotValid has flaws come ahead of what does not exist, wherever in the definition they are.
func TestNotValid(t *testing.T) {
	for i, spoil := range []func(*api.Definition){
		func(d *api.Definition) { *d = api.Definition{} },
		func(d *api.Definition) { d.Name = "" },
		func(d *api.Definition) { d.Start = "x" },
		func(d *api.Definition) { d.Messages = nil },
		func(d *api.Definition) { d.Messages[0].Name = "m" },
		func(d *api.Definition) { d.Messages[0].Fields = nil },
		func(d *api.Definition) { d.Messages[1].Fields = nil },
		func(d *api.Definition) { d.Messages[0].Fields[0].Kind = 0 },
		func(d *api.Definition) { d.Messages[0].Fields[0].Kind = 13 },
		func(d *api.Definition) { d.Messages[0].Fields[0].Bits = 33 },
		func(d *api.Definition) { d.Messages[0].Fields[0].High = -1 },
		func(d *api.Definition) { d.Messages[0].Fields[1].Size.Base = -1 },
		func(d *api.Definition) { d.Messages[0].Fields[1].Size.Base = math.MaxInt },
		func(d *api.Definition) { d.Messages[0].Fields[1].Size.Terms[0].Factor = math.MaxInt },
		func(d *api.Definition) { d.Messages[0].Fields[1].Size.Terms[0].Field = "x" },
		func(d *api.Definition) { d.Messages[1].Fields[1].Bits = 0 },
		func(d *api.Definition) { d.Messages[1].Fields[1].Bits = math.MinInt },
		func(d *api.Definition) { d.Messages[1].Fields[2].Low = 301 },
		func(d *api.Definition) { d.Messages[1].Fields[2].High = math.MaxInt },
		func(d *api.Definition) { d.Messages[1].Fields[3].Of = "x" },
		func(d *api.Definition) { d.Messages[1].Fields[3].Of = "m" },
		func(d *api.Definition) { d.Messages[1].Fields[4].Check = 4 },
		func(d *api.Definition) { d.Messages[1].Fields[4].From = "x" },
		func(d *api.Definition) {
			d.Messages[1].Fields[3] = api.Field{Name: "c", Kind: api.KindChoice, Tag: "t"}
		},
	} {
		d := defined(t, example)
		spoil(&d)
		for _, message := range append(outside(2), 0, 1) {
			for _, field := range append(outside(5), 0, 1, 4) {
				refused(t, d, message, field, api.ErrArg, api.ErrArg)
			}
		}
		for m, r := range span.Spans(d) {
			t.Errorf("definition %d: message %d has the span %v", i, m, r)
		}
	}
}

// TestKinds looks at a field of each kind, behind numbers and other messages.
func TestKinds(t *testing.T) {
	const messages = `message one { x: uint 13 0..5; }
message few { n: uint 4 2..9; b: bytes [n]; }
message most { b: bytes [1048576]; }
message m { n: uint 8 0..1; v: varint 2..300; c: const 16 little = 7; f: %s; }`
	for kind, want := range map[string]api.Range{
		"uint 1 0..0":                            exactly(1),
		"uint 1 0..1":                            exactly(1),
		"uint 13 0..5":                           exactly(13),
		"uint 32 0..4294967295":                  exactly(32),
		"uint 24 little 7..9":                    exactly(24),
		"const 1 = 0":                            exactly(1),
		"const 9 = 500":                          exactly(9),
		"const 32 little = 1":                    exactly(32),
		"bytes [0]":                              exactly(0),
		"bytes [3]":                              exactly(24),
		"bytes [n]":                              between(0, 8),
		"bytes [-2*n+10]":                        between(64, 80),
		"bytes [v]":                              between(16, 2400),
		"bytes [n+v]":                            between(16, 2408),
		"bytes [v-n-1]":                          between(0, 8*299),
		"bytes [c]":                              exactly(56),
		"bytes [1048576*n]":                      between(0, 8<<20),
		"bytes [1048576]":                        exactly(8 << 20),
		"until 0 max 0":                          exactly(8),
		"until 255 max 0":                        exactly(8),
		"until 9 max 3":                          between(8, 32),
		"until 0 max 1048576":                    between(8, 8<<20+8),
		"headers max 2":                          exactly(16),
		"headers max 9":                          between(16, 72),
		"headers max 1048576 loose":              between(16, 8<<20),
		"list [0] of few":                        exactly(0),
		"list [1] of few":                        between(20, 76),
		"list [n] of few":                        between(0, 76),
		"list [n] of one":                        between(0, 13),
		"list [2*v-3] of few":                    between(20, 597*76),
		"list [c-n] of one":                      between(6*13, 7*13),
		"list [1048576] of few":                  between(20<<20, 76<<20),
		"list [-n+1048576] of one":               between(13*(1<<20-1), 13<<20),
		"message one":                            exactly(13),
		"message few":                            between(20, 76),
		"message most":                           exactly(8 << 20),
		"choice n { 0..1: one; }":                exactly(13),
		"choice n { 0..0: few; }":                between(20, 76),
		"choice v { 2..2: one; 300..300: one; }": exactly(13),
		"choice n { 0..0: one; 1..1: few; }":     between(13, 76),
		"choice n { 0..0: few; 1..1: one; }":     between(13, 76),
		"choice v { 3..3: most; 4..9: few; 10..10: one; }":  between(13, 8<<20),
		"choice v { 3..3: one; 4..9: few; 10..10: most; }":  between(13, 8<<20),
		"choice v { 3..3: few; 4..9: one; 10..10: few; }":   between(13, 76),
		"choice v { 3..3: few; 4..9: most; 10..200: few; }": between(20, 8<<20),
		"choice c { 7..7: few; }":                           between(20, 76),
		"pad 2":                                             between(0, 1),
		"pad 4":                                             between(0, 3),
		"pad 8":                                             between(0, 7),
		"pad 16":                                            between(0, 15),
		"pad 24":                                            between(0, 23),
		"pad 512":                                           between(0, 511),
		"check 1 from n":                                    exactly(16),
		"check 2 from v":                                    exactly(16),
		"check 3 from c":                                    exactly(32),
		"view [0] of few key 0":                             exactly(0),
		"view [3] of one key 0":                             exactly(24),
		"view [n] of most key 9":                            between(0, 8),
		"view [v+1] of few key 1":                           between(24, 8*301),
		"view [1048576] of one key 4":                       exactly(8 << 20),
	} {
		d := defined(t, fmt.Sprintf(messages, kind))
		if r, e := span.Field(d, 3, 3); r != want || e != api.OK {
			t.Errorf("%s: span %v, code %d, not %v", kind, r, e, want)
		}
		if r, e := span.Position(d, 3, 3); r != between(32, 40) || e != api.OK {
			t.Errorf("%s: position %v, code %d", kind, r, e)
		}
		if strings.HasPrefix(kind, "pad") {
			continue
		}
		if r, e := span.Message(d, 3); r != between(min(32+want.Low, 1<<40), min(40+want.High, 1<<40)) || e != api.OK {
			t.Errorf("%s: span %v, code %d, of the message", kind, r, e)
		}
	}
}

// TestVarint has the number of bytes of an integer grow at each further group of seven bits.
func TestVarint(t *testing.T) {
	groups := map[int]int{0: 1, 1: 1, 2: 1, 63: 1, 64: 1, 126: 1, 127: 1, 128: 2, 129: 2, 255: 2, 256: 2, 1<<14 - 1: 2, 1 << 14: 3, 1<<21 - 1: 3, 1 << 21: 4, 1<<28 - 1: 4, 1 << 28: 5, 1 << 31: 5, 1 << 32: 5, 1<<35 - 2: 5, 1<<35 - 1: 5}
	for low, least := range groups {
		for high, most := range groups {
			if low > high {
				continue
			}
			text := fmt.Sprintf("message m { v: varint %d..%d; w: varint %d..%d loose; }", low, high, low, high)
			spans(t, defined(t, text), 0, between(16*least, 8*most+40),
				field{exactly(0), between(8*least, 8*most)}, field{between(8*least, 8*most), between(8*least, 40)})
		}
	}
}

func TestFixed(t *testing.T) {
	const messages = "message one { x: uint 13 0..5; } message few { n: uint 4 2..9; b: bytes [n]; } "
	for fields, want := range map[string]bool{
		"n: uint 1 0..1;": true,
		"n: uint 5 0..9; c: const 3 = 2; k: check 3 from n;": true,
		"v: varint 0..127;":                                           true,
		"v: varint 127..128;":                                         false,
		"v: varint 128..16383;":                                       true,
		"v: varint 128..16383 loose;":                                 false,
		"v: varint 268435456..268435457 loose;":                       true,
		"n: uint 8 4..4; b: bytes [3*n];":                             true,
		"n: uint 8 4..5; b: bytes [3*n];":                             false,
		"n: uint 8 4..5; b: list [n] of one;":                         false,
		"c: const 8 = 4; b: list [c] of one; o: message one;":         true,
		"c: const 8 = 4; b: list [c] of few;":                         false,
		"c: const 8 = 4; b: list [c-4] of few;":                       true,
		"o: message few;":                                             false,
		"o: view [9] of few key 0;":                                   true,
		"n: uint 8 4..5; o: choice n { 4..5: one; }; p: pad 24;":      true,
		"n: uint 8 4..5; o: choice n { 4..4: one; 5..5: few; };":      false,
		"u: until 0 max 0; h: headers max 2;":                         true,
		"u: until 0 max 1;":                                           false,
		"h: headers max 3;":                                           false,
		"n: uint 8 0..255; b: bytes [n]; p: pad 8;":                   false,
		"n: uint 8 0..31; b: bytes [n]; p: pad 512; c: const 8 = 1;":  true,
		"n: uint 8 0..63; b: bytes [n]; p: pad 512; c: const 8 = 1;":  true,
		"n: uint 8 0..64; b: bytes [n]; p: pad 512; c: const 8 = 1;":  false,
		"n: uint 1 0..1; p: pad 2;":                                   true,
		"h: headers max 3; p: pad 16;":                                false,
		"h: headers max 4; c: const 8 = 0; d: const 1 = 1; p: pad 8;": false,
		"h: headers max 4; p: pad 32;":                                true,
	} {
		d := defined(t, messages+"message m { "+fields+" }")
		if is, e := span.Fixed(d, 2); is != want || e != api.OK {
			t.Errorf("%s: %t, code %d", fields, is, e)
		}
	}
}

func TestLength(t *testing.T) {
	for fields, want := range map[string]api.Range{
		"n: uint 1 0..1;":                          exactly(1),
		"n: uint 7 0..1;":                          exactly(1),
		"n: uint 8 0..1;":                          exactly(1),
		"n: uint 9 0..1;":                          exactly(2),
		"n: uint 16 0..1;":                         exactly(2),
		"n: uint 32 0..1; o: const 1 = 1;":         exactly(5),
		"b: bytes [0];":                            exactly(0),
		"n: uint 8 0..9; b: bytes [n]; p: pad 8;":  between(1, 10),
		"n: uint 7 0..9; b: bytes [n];":            between(1, 10),
		"n: uint 8 0..9; b: bytes [n];":            between(1, 10),
		"n: uint 9 0..9; b: bytes [n];":            between(2, 11),
		"n: uint 9 0..9; b: bytes [n]; p: pad 32;": between(4, 12),
		"b: bytes [1048576]; c: const 1 = 0;":      exactly(1<<20 + 1),
	} {
		d := defined(t, "message m { "+fields+" }")
		if r, e := span.Length(d, 0); r != want || e != api.OK {
			t.Errorf("%s: %v, code %d, not %v", fields, r, e, want)
		}
	}
}
