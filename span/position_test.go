package span_test

import (
	"fmt"
	"strings"
	"testing"

	"phrasebook/api"
	"phrasebook/span"
)

// TestPositions has the ends of all fields ahead add up.
func TestPositions(t *testing.T) {
	d := defined(t, "message a { x: uint 8 0..5; } message b { x: uint 3 0..5; } "+
		"message m { n: uint 5 0..3; c: const 1 = 1; l: list [n+1] of b; h: headers max 4; o: message a; v: varint 9..1000 loose; "+
		"s: choice n { 0..0: a; 1..1: b; }; b: bytes [2*n]; u: until 9 max 1; k: check 2 from l; w: view [1] of b key 3; }")
	spans(t, d, 2, between(76, 194),
		field{exactly(0), exactly(5)},
		field{exactly(5), exactly(1)},
		field{exactly(6), between(3, 12)},
		field{between(9, 18), between(16, 32)},
		field{between(25, 50), exactly(8)},
		field{between(33, 58), between(8, 40)},
		field{between(41, 98), between(3, 8)},
		field{between(44, 106), between(0, 48)},
		field{between(44, 154), between(8, 16)},
		field{between(52, 170), exactly(16)},
		field{between(68, 186), exactly(8)})
}

// TestPadding rounds both ends of a position up, each by itself.
func TestPadding(t *testing.T) {
	for _, x := range []struct {
		low, high, bits int // of the position, and of the padding
		from, to        int // of the position behind it
	}{
		{1, 1, 2, 2, 2}, {2, 2, 2, 2, 2}, {3, 3, 2, 4, 4}, {3, 11, 2, 4, 12}, {3, 11, 4, 4, 12}, {4, 12, 4, 4, 12}, {5, 13, 4, 8, 16},
		{1, 1, 8, 8, 8}, {7, 7, 8, 8, 8}, {8, 8, 8, 8, 8}, {9, 9, 8, 16, 16}, {8, 16, 8, 8, 16}, {7, 15, 8, 8, 16}, {9, 17, 8, 16, 24},
		{1, 9, 16, 16, 16}, {1, 17, 16, 16, 32}, {8, 16, 16, 16, 16}, {16, 24, 16, 16, 32}, {17, 33, 16, 32, 48},
		{1, 25, 24, 24, 48}, {24, 48, 24, 24, 48}, {23, 47, 24, 24, 48}, {25, 49, 24, 48, 72}, {30, 70, 40, 40, 80},
		{1, 505, 512, 512, 512}, {8, 512, 512, 512, 512}, {9, 513, 512, 512, 1024}, {512, 512, 512, 512, 512}, {513, 513, 512, 1024, 1024}, {1025, 4001, 512, 1536, 4096},
	} {
		// The bits ahead are full bytes, at least as many as at the lower end, and the rest of them.
		rest := (x.low-1)%8 + 1
		d := defined(t, fmt.Sprintf("message m { n: uint %d 0..1; c: bytes [%d]; b: bytes [n]; p: pad %d; x: const 3 = 1; }", rest, (x.low-rest)/8, x.bits))
		d.Messages[0].Fields[2].Size = api.Size{}
		if more := x.high - x.low; more > 0 {
			d.Messages[0].Fields[2].Size.Terms = []api.Term{{Field: "n", Factor: more / 8}}
		}
		spans(t, d, 0, between(x.from+3, x.to+3),
			field{exactly(0), exactly(rest)}, field{exactly(rest), exactly(x.low - rest)}, field{exactly(x.low), between(0, x.high-x.low)},
			field{between(x.low, x.high), between(0, x.bits-1)}, field{between(x.from, x.to), exactly(3)})
	}
}

// TestPaddingFromTheBeginning has padding count from the beginning of its own message, wherever that stands.
func TestPaddingFromTheBeginning(t *testing.T) {
	d := defined(t, "message z { p: pad 512; } message a { x: uint 3 0..1; p: pad 8; y: uint 1 0..1; q: pad 2; } message b { n: uint 3 1..2; l: list [n] of a; p: pad 16; o: message a; } "+
		"message m { x: uint 5 0..1; a: message a; p: pad 4; q: pad 4; b: message b; z: message z; r: pad 2; s: pad 24; t: pad 16; }")
	spans(t, d, 0, exactly(0), field{exactly(0), between(0, 511)})
	spans(t, d, 1, exactly(10),
		field{exactly(0), exactly(3)}, field{exactly(3), between(0, 7)}, field{exactly(8), exactly(1)}, field{exactly(9), between(0, 1)})
	spans(t, d, 2, between(26, 42),
		field{exactly(0), exactly(3)}, field{exactly(3), between(10, 20)}, field{between(13, 23), between(0, 15)}, field{between(16, 32), exactly(10)})
	spans(t, d, 3, between(48, 80),
		field{exactly(0), exactly(5)}, field{exactly(5), exactly(10)}, field{exactly(15), between(0, 3)}, field{exactly(16), between(0, 3)},
		field{exactly(16), between(26, 42)}, field{between(42, 58), exactly(0)}, field{between(42, 58), between(0, 1)},
		field{between(42, 58), between(0, 23)}, field{between(48, 72), between(0, 15)})
}

// TestSizesOfNumbers has the interval of a size come from the ranges of the numbers of its own message.
func TestSizesOfNumbers(t *testing.T) {
	d := defined(t, "message a { n: uint 8 5..6; b: bytes [n]; } "+
		"message m { n: uint 8 1..2; m: varint 3..9; c: const 8 = 4; a: message a; b: bytes [n]; l: list [2*m-n-c] of a; w: view [c] of a key 0; }")
	spans(t, d, 0, between(48, 56), field{exactly(0), exactly(8)}, field{exactly(8), between(40, 48)})
	spans(t, d, 1, between(24+48+8+32, 24+56+16+13*56+32),
		field{exactly(0), exactly(8)}, field{exactly(8), exactly(8)}, field{exactly(16), exactly(8)}, field{exactly(24), between(48, 56)},
		field{between(72, 80), between(8, 16)}, field{between(80, 96), between(0, 13*56)}, field{between(80, 96+13*56), exactly(32)})
}

const most = 1 << 40

// TestMostBits has what is above the greatest number of bits count as it, wherever it comes up.
func TestMostBits(t *testing.T) {
	if span.MaxSpan != most {
		t.Fatalf("%d bits", span.MaxSpan)
	}
	// 2^20 messages a are exactly as many bits as there may be, the same of b are 2^20 below it and of c above.
	const messages = `message a { b: bytes [131072]; }
message b { b: bytes [131071]; x: const 7 = 1; }
message c { b: bytes [131072]; x: const 1 = 1; }
message d { b: bytes [1048576]; c: bytes [1048576]; }
message e { n: uint 20 0..1048575; l: list [n+1] of d; }
message f { l: list [1024] of e; }
message g { l: list [1048576] of f; }
message z { b: bytes [0]; }
message m { n: uint 32 0..1; f: %s; x: const 32 = 0; p: pad %d; y: const 8 = 0; }`
	for _, x := range []struct {
		kind        string
		pad         int
		field, last api.Range // of the field, and the position behind the padding
	}{
		{"list [1048576] of a", 8, exactly(most), exactly(most)},
		{"list [1048575] of a", 8, exactly(most - 1<<20), exactly(most - 1<<20 + 64)},
		{"list [1048575] of a", 512, exactly(most - 1<<20), exactly(most - 1<<20 + 512)},
		{"list [1048576] of b", 16, exactly(most - 1<<20), exactly(most - 1<<20 + 64)},
		{"list [1048576] of c", 8, exactly(most), exactly(most)},
		{"list [1048576] of c", 24, exactly(most), exactly(most)},
		{"list [1048576*n] of a", 8, between(0, most), between(64, most)},
		{"list [1048576*n] of c", 504, between(0, most), between(504, most)},
		{"list [65536] of d", 8, exactly(most), exactly(most)},
		{"list [65535] of d", 8, exactly(most - 1<<24), exactly(most - 1<<24 + 64)},
		{"list [n+65535] of d", 8, between(most-1<<24, most), between(most-1<<24+64, most)},
		{"message e", 8, between(20+1<<24, most), between(1<<24+88, most)},
		{"message f", 8, between((20+1<<24)<<10, most), between((20+1<<24)<<10+64, most)},
		{"message g", 8, exactly(most), exactly(most)},
		{"list [0] of g", 8, exactly(0), exactly(64)},
		{"list [n] of g", 8, between(0, most), between(64, most)},
		{"list [2*n] of g", 504, between(0, most), between(504, most)},
		{"list [1048576] of g", 8, exactly(most), exactly(most)},
		{"list [1048576] of z", 8, exactly(0), exactly(64)},
		{"choice n { 0..0: z; 1..1: g; }", 8, between(0, most), between(64, most)},
		{"choice n { 0..0: g; 1..1: e; }", 8, between(20+1<<24, most), between(1<<24+88, most)},
		{"choice n { 0..1: g; }", 8, exactly(most), exactly(most)},
		{"view [n] of g key 1", 8, between(0, 8), between(64, 72)},
	} {
		d := defined(t, fmt.Sprintf(messages, x.kind, x.pad))
		more := func(r api.Range, bits int) api.Range { return between(min(r.Low+bits, most), min(r.High+bits, most)) }
		spans(t, d, 8, more(x.last, 8),
			field{exactly(0), exactly(32)}, field{exactly(32), x.field}, field{more(x.field, 32), exactly(32)},
			field{more(x.field, 64), between(0, x.pad-1)}, field{x.last, exactly(8)})
	}
}

// TestJustBelowTheMost has messages whose parts are below the greatest number of bits, and whose sum is not.
func TestJustBelowTheMost(t *testing.T) {
	const messages = `message a { b: bytes [131072]; }
message m { n: uint 8 0..1; l: list [1048575] of a; b: bytes [131070]; x: const %d = 0; p: pad %d; y: const 1 = 1; }`
	const ahead = most - 1<<20 + 8
	for _, x := range []struct{ bits, pad, whole int }{
		{6, 2, most - 1}, {7, 2, most}, {8, 2, most}, {9, 2, most}, {8, 512, most}, {1, 8, most}, {1, 4, most - 3}, {2, 4, most - 3}, {2, 24, most},
	} {
		d := defined(t, fmt.Sprintf(messages, x.bits, x.pad))
		at := min(ahead+131070*8+x.bits, most)
		behind := min((at+x.pad-1)/x.pad*x.pad, most)
		spans(t, d, 1, exactly(x.whole),
			field{exactly(0), exactly(8)}, field{exactly(8), exactly(most - 1<<20)}, field{exactly(ahead), exactly(131070 * 8)},
			field{exactly(ahead + 131070*8), exactly(x.bits)}, field{exactly(at), between(0, x.pad-1)}, field{exactly(behind), exactly(1)})
	}
}

// TestDepth has messages as deep as may be, each of which refers to the one before it in all its fields.
func TestDepth(t *testing.T) {
	var text strings.Builder
	text.WriteString("message m { n: uint 1 0..1; }")
	for i := 1; i < api.MaxDepth; i++ {
		of := "m"
		if i > 1 {
			of = fmt.Sprintf("m%d", i-1)
		}
		fmt.Fprintf(&text, " message m%d { n: uint 2 0..3; m: uint 5 0..0;", i)
		for j := 2; j < api.MaxFields; j += 2 {
			fmt.Fprintf(&text, " f%d: message %s; l%d: list [n] of %s;", j, of, j, of)
		}
		text.WriteString(" }")
	}
	d := defined(t, text.String())
	whole := exactly(1)
	for i := range d.Messages {
		if i > 0 {
			whole = between(min(7+19*whole.Low, most), min(7+19*4*whole.High, most))
		}
		weighed(t, d, i, whole)
	}
	d.Start = d.Messages[api.MaxDepth-1].Name
	count := 0
	for range span.Spans(d) {
		count++
	}
	if count != api.MaxDepth {
		t.Errorf("%d messages are reached", count)
	}
}
