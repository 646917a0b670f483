package syntax_test

import (
	"fmt"
	"strings"
	"testing"

	"phrasebook/api"
	"phrasebook/syntax"
	"phrasebook/token"
)

// marked returns a text without the mark in it, and the place of the mark.
func marked(text string) (string, token.Place) {
	at := strings.Index(text, "^")
	return text[:at] + text[at+1:], placeOf(text, at)
}

// TestWrongTokens has a mark ahead of the wrong token or byte of each text.
func TestWrongTokens(t *testing.T) {
	for _, text := range []string{
		"^;", "^x", "^message", "^Protocol p;", "^\"protocol\" p;", "^1", "protocol ^;", "protocol ^1", "protocol ^\"p\";", "protocol p ^p;", "protocol p ^message", "protocol p ^, start",
		"protocol p; ^;", "protocol p; ^x", "protocol p; ^\"start\" a;", "protocol p; ^protocol p;", "protocol p; ^} start p;", "protocol p; start ^;", "protocol p; start ^5;", "protocol p; start s ^s", "protocol p; start s ^}",
		"protocol p; start s; ^;", "protocol p; start s; ^start s;", "protocol p; start s; ^message a { x: pad 8; }", "protocol p; start s; ^5", "protocol p; start s;\n\n  ^\"\"",
	} {
		text, at := marked(text)
		refused(t, text, at, api.ErrFormat)
	}
	const head, tail = "protocol p;\nmessage a {\n  n: uint 8 0..9;\n}\n", "\nstart a;"
	for _, text := range []string{
		"^Message b { n: pad 8; }", "message ^{ n: pad 8; }", "message ^5 { n: pad 8; }", "message b ^n: pad 8; }", "message b ^( n: pad 8; )", "message b ^\"{\" n: pad 8; }", "message b ^; { n: pad 8; }",
		"message b { ^; }", "message b { ^5: pad 8; }", "message b { ^: pad 8; }", "message b { ^{ n: pad 8; } }", "message b { ^\"n\": pad 8; }", "message b { n ^pad 8; }", "message b { n ^= pad 8; }", "message b { n ^} }", "message b { n ^\":\" pad 8; }",
		"message b { n: pad 8 ^}", "message b { n: pad 8 ^, m: pad 8; }", "message b { n: pad 8; ^; }", "message b { n: pad 8; ^\"}\"", "message b { n: pad 8; } ^}", "message b { n: pad 8; } ^;", "message b { n: pad 8; start ^a;", "message b { n: pad 8; ^] }",
		"message b { n: ^pod 8; }", "message b { n: ^Uint 8 0..1; }", "message b { n: ^5; }", "message b { n: ^; }", "message b { n: ^\"pad\" 8; }", "message b { n: ^start a; }", "message b { n: ^little 8; }", "message b { n: ^[8]; }", "message b { n: ^n: pad 8; }",
		"message m { n: pad 8; } ^message2 b { n: pad 8; }", "#\nmessage\n^5", "start a; ^x", "start a;\r\n\t^}", "start a; # ;\n ^;",
	} {
		text, at := marked(head + strings.ReplaceAll(text, "#\nmessage\n^5", "#\nmessage\n^5") + tail)
		refused(t, text, at, api.ErrFormat)
	}
}

// TestWrongKinds has a mark ahead of the wrong token of each field.
func TestWrongKinds(t *testing.T) {
	for _, field := range []string{
		"uint 0^..9", "uint ^little 8 0..9", "uint 8 ^loose 0..9", "uint 8 ^= 0", "uint 16 little ^little 0..9", "uint 16 little ^= 9", "uint 8 0^.255", "uint 8 0..^.255", "uint 8 0^:255", "uint 8 0 ^255", "uint 8 0..^n", "uint 8 0..^-1", "uint 8 ^-1..0", "uint 8 ^n..9", "uint 8 0..9 ^loose", "uint 8 0..9 ^little", "uint 8 0..9 ^..9", "uint ^\"8\" 0..9", "uint 8 ^.. 9", "uint ^[8] 0..9",
		"const 8 ^0..0", "const 8 ^..0", "const 8 ^0", "const ^= 0", "const ^little 16 = 0", "const 16 little ^0", "const 8 ^loose = 0", "const 8 = ^n", "const 8 = ^-1", "const 8 = ^= 0", "const 8 = 0 ^little", "const 8 = 0^..0", "const 8 ^\"=\" 0", "const 8 ^: 0",
		"varint ^loose 0..9", "varint 0^", "varint ^..9", "varint 0..^loose", "varint 0..9 loose ^loose", "varint 0..9 ^little", "varint 0..9 ^\"loose\"", "varint 8 ^0..9", "varint 0^-9", "varint 0^->9",
		"bytes ^n", "bytes ^5", "bytes ^(n)", "bytes ^{n}", "bytes ^\"[\" n]", "bytes ^]", "bytes [n] ^of a", "bytes [n]^]", "bytes [n] ^[n]",
		"until ^max 9", "until ^n max 9", "until 0 ^9", "until 0 ^.. 9", "until 0 ^Max 9", "until 0 max ^max", "until 0 max ^n", "until 0 max ^", "until 0 max 9 ^loose", "until 0 ^\"max\" 9",
		"headers ^9", "headers ^loose max 9", "headers ^min 9", "headers max ^loose", "headers max ^n", "headers max 9 ^little", "headers max 9 loose ^9", "headers max 9 loose ^loose",
		"list ^of a", "list ^a", "list ^n of a", "list [n] ^a", "list [n] ^from a", "list [n] of ^5", "list [n] of ^", "list [n] of a ^key 0", "list [n] of ^[n]", "list [n] of ^\"a\"", "list ^loose [n] of a",
		"message ^", "message ^5", "message ^[1] of a", "message ^{ x: pad 8; }", "message a ^a", "message a ^{ }", "message ^\"a\"",
		"choice ^{ 0..1: a; }", "choice ^5 { 0..1: a; }", "choice n ^", "choice n ^0..1: a", "choice n ^[0..1: a; ]", "choice n { ^a; }", "choice n { 0^: a; }", "choice n { 0 ^1: a; }", "choice n { 0..^: a; }", "choice n { 0..1 ^a; }", "choice n { 0..1^; a; }", "choice n { 0..1: ^5; }", "choice n { 0..1: ^; }", "choice n { 0..1: a ^}", "choice n { 0..1: a^, 2..3: a; }", "choice n { 0..1: a;^; }", "choice n { 0..1: a; ^]", "choice n { 0..1: a; } ^}", "choice n { 0..1: a; ^\"}\"", "choice n { ^{ 0..1: a; } }", "choice n { ^..1: a; }", "choice n { ^x: pad 8; }",
		"pad ^", "pad ^n", "pad ^[8]", "pad 8 ^8", "pad 8 ^little", "pad ^little 8", "pad ^-8",
		"check ^from n", "check ^n", "check 1 ^n", "check 1 ^of n", "check 1 from ^1", "check 1 from ^", "check 1 from n ^n", "check 1 from n ^to n", "check 1 from ^\"n\"",
		"view ^of a key 0", "view ^n of a key 0", "view [n] ^a key 0", "view [n] of ^0 key 0", "view [n] of a ^", "view [n] of a ^0", "view [n] of a key ^", "view [n] of a key ^n", "view [n] of a key ^-1", "view [n] of a key 0 ^0", "view [n] of a ^of 0", "view [n] ^key 0",
	} {
		text, at := marked(framed(field))
		refused(t, text, at, api.ErrFormat)
	}
}

// TestWrongSizes has a mark ahead of the first token of each size, which is the wrong one,
// whatever stands behind it.
func TestWrongSizes(t *testing.T) {
	for _, size := range []string{
		"^]", " ^]", "\n^]", "# ]\n ^]", "^+]", "^-]", "^*]", "^n+]", "^n-]", "^n*]", "^2*]", "^+n]", "^+2]", "^--n]", "^n+-c]", "^n*2]", "^n*c]", "^1*n]", "^0*n]", "^-1*n]", "^n+0]", "^n-0]", "^-0]", "^0+n]", "^4+n]", "^n+1+1]",
		"^0x2]", "^0x2*n]", "^n+0x2]", "^n+0xA]", "^n+n]", "^n-n]", "^n+c-2*n]", "^n+c+n2+c2+x]", "^1048577]", "^n+1048577]", "^-1048577]", "^1048577*n]", "^-1048577*n]", "^4611686018427387904]",
		"^n n]", "^2 n]", "^n 2]", "^2 2]", "^1 0]", "^n c2+1]", "^2*n n]", "^n+1 0]", "^1 0*n]", " ^n_ 2]", "^n\n\nn]", "^n#\nc]", "^1#\n0]",
		"^\"n\"]", "^n+\"c\"]", "^\"\"]", "^n\"\"]", "^\"\"n]", "^\"]\"n]", "^n \"+\" c]", "^\"2\"*n]", "^2\"*\"n]", "^\"-\"n+15]", "\n ^\"n\"]", " #\n ^\"n\"]",
		"^[n]", "^[]", "^[n]]", "^(n)]", "^n;]", "^n..c]", "^n->c]", "^n.c]", "^n,c]", "^{n}]", "^n:]", "^n=2]", "^2/n]", "^!n]", "^n = 2; } start m]", "^; x: bytes [n]", "^-\n-n]",
	} {
		for _, field := range []string{"bytes [%", "list [% of a", "view [% of a key 0"} {
			text, at := marked(framed(strings.Replace(field, "%", size, 1)))
			refused(t, text, at, api.ErrFormat)
		}
	}
}

// parsed returns the definition with a text.
func parsed(t *testing.T, text string) api.Definition {
	t.Helper()
	d, _, e := syntax.Parse(text)
	if e != api.OK {
		t.Fatalf("%q: code %d", text, e)
	}
	return d
}

func TestEndsTooEarly(t *testing.T) {
	l, _, _ := token.Scan(whole)
	for i := range l {
		at := l[i].Place
		offset := 0
		for range at.Line - 1 {
			offset += strings.Index(whole[offset:], "\n") + 1
		}
		text := strings.TrimRight(whole[:offset+at.Column-1], " \n")
		for _, end := range []string{"", " ", "\n", "\n\t# ; ]\n", " # ;", "\""} {
			cut := text + end
			refused(t, cut, placeOf(cut, len(cut)), api.ErrShort)
		}
		if i > 0 && (l[i-1].Kind == token.KindWord || l[i-1].Kind == token.KindNumber) {
			cut := text + " 0x"
			refused(t, cut, placeOf(cut, len(cut)), api.ErrShort)
		}
	}
}

func TestSizesWithoutAnEnd(t *testing.T) {
	for _, size := range strings.Split(`[|[ |[n|[2*n+|[n+|[+|[n n|["n"|["]"|[[|[n;|[ # ]|[n; } start m;|[n) of a|["n" "]" n|[1048577|[n+n+n+n+n`, "|") {
		for _, field := range []string{"bytes %", "list % of a", "view % of a key 0"} {
			text := framed(strings.Replace(field, "%", size, 1))
			refused(t, text, placeOf(text, len(text)), api.ErrShort)
		}
	}
	// The next symbol ] ends a size, however far away it is.
	text, at := marked(framed("bytes [^n; x: bytes [n]"))
	refused(t, text, at, api.ErrFormat)
}

func TestOrderOfErrors(t *testing.T) {
	const good = "protocol d; message m { n: uint 8 0..255; b: bytes [n]; } start m;"
	for _, x := range []struct {
		text string
		code api.Errno
	}{
		// A wrong byte counts before a wrong token ahead of it, and so does a token without an end.
		{"protocol d, message m { n: uint 8 0..255; } start ^$;", api.ErrFormat},
		{"5 message ^$", api.ErrFormat},
		{"5 message 0^9", api.ErrFormat},
		{"5 " + strings.Repeat("m", 32) + "^m", api.ErrFormat},
		{"5 \"^\n", api.ErrFormat},
		{"5 message \"^", api.ErrShort},
		{"5 message \"a \\ b\x7e^", api.ErrShort},
		{"5 message 0x^", api.ErrShort},
		{"protocol d; message m { b: bytes [; n: \"^", api.ErrShort},
		{"protocol d; message m { b: bytes [; n: ^\x00", api.ErrFormat},
		{"protocol d; start m; ^4611686018427387904", api.ErrFormat},
		{"protocol d; start m; 461168601842738790^5", api.ErrFormat},
		// A wrong token counts before those behind it, and before a flaw ahead of it.
		{"protocol d; message m { n: uint 99 7..3; b: bytes [x]; } start ^5;", api.ErrFormat},
		{"protocol d; message m { n: uint 99 ^; b: bytes [; } start 5;", api.ErrFormat},
		{"protocol d; message m { n: bytes [^x+]; b: 5 } start 5", api.ErrFormat},
		{"protocol d; start m; ^protocol d; start m;", api.ErrFormat},
		{"protocol d; message m { } start m; ^x", api.ErrFormat},
		// So does an end that comes too early.
		{"protocol d; message m { n: uint 99 7..3; b: bytes [x]; } start x^", api.ErrShort},
		{"protocol d; message m { n: bytes [x]; m: list [^", api.ErrShort},
		{"protocol d; start m^", api.ErrShort},
	} {
		text, at := marked(x.text)
		refused(t, text, at, x.code)
	}
	refused(t, good+"\x00", placeOf(good, len(good)), api.ErrFormat)
	refused(t, "", place(1, 1), api.ErrShort)
	refused(t, "\n \n", place(3, 1), api.ErrShort)
	refused(t, "# protocol d;", place(1, 14), api.ErrShort)
	refused(t, "protoco", place(1, 1), api.ErrFormat)
}

// TestFlaws has a mark ahead of the name that is to blame.
func TestFlaws(t *testing.T) {
	fields := func(n int) string {
		text := ""
		for i := range n {
			text += fmt.Sprintf("n%d: pad 8; ", i)
		}
		return text
	}
	deep := func(n int, mark string) string {
		text := "protocol p; message m1 { x: pad 8; } "
		for i := range n - 2 {
			text += fmt.Sprintf("message m%d { x: message m%d; } ", i+2, i+1)
		}
		return text + fmt.Sprintf("message %sm%d { x: message m%d; } start m1;", mark, n, n-1)
	}
	many := func(n int) string {
		text := ""
		for i := range n {
			text += fmt.Sprintf("message m%d { x: pad 8; } ", i)
		}
		return text
	}
	cases := func(n int) string {
		text := ""
		for i := range n {
			text += fmt.Sprintf("%d..%d: a; ", i, i)
		}
		return text
	}
	chosen := func(mark, cases string) string {
		return "protocol p; message a { x: pad 8; } message m { n: uint 8 0..255; " + mark + "c: choice n { " + cases + "}; } start m;"
	}
	for _, text := range []string{
		"protocol ^p; start m;", "protocol ^p; start p;", "protocol ^p; " + many(61) + "start m0;", "protocol ^p; " + many(300) + "start x;",
		"protocol p; message ^m { } start m;", "protocol p; message ^m { } start x;", "protocol p; message ^m { " + fields(41) + "} start m;", "protocol p; message a { x: pad 8; } message b { x: pad 8; } message ^a { x: pad 8; } start a;", "protocol p; message a { x: pad 8; }\nmessage\n  ^a { } start a;",
		"protocol p; message m { n: pad 8; ^n: pad 8; } start m;", "protocol p; message m { n: pad 8; o: pad 8;\n\t^n: message m; } start m;",
		"protocol p; message a { x: pad 8; } message b { y: pad 8; ^x: uint 0 0..0; x: pad 1; } start c;",
		deep(17, "^"), strings.Replace(deep(19, ""), "message m17 {", "message ^m17 {", 1),
		"protocol p; message m { n: pad 8; } start ^x;", "protocol p; message m { n: pad 8; } start\n ^p;", "protocol p; message m { n: pad 8; } start ^n;", many0("start ^m60;"),
		chosen("^", ""), chosen("^", cases(41)), chosen("^", "0..3: a; 3..4: a; "), chosen("^", "0..3: b; "), chosen("^", "0..256: a; "), chosen("^", "4..3: a; "), chosen("^", "0..3: m; "),
	} {
		text, at := marked(text)
		refused(t, text, at, api.ErrArg)
	}
	for _, text := range []string{"protocol p; " + many(60) + "start m59;", "protocol p; message m { " + fields(40) + "} start m;", deep(16, ""), chosen("", cases(40)), chosen("", "0..255: a; ")} {
		parsed(t, text)
	}
}

// many0 returns the text of a definition with as many messages as it may have, and an end.
func many0(end string) string {
	text := "protocol p; "
	for i := range api.MaxMessages {
		text += fmt.Sprintf("message m%d { x: pad 8; } ", i)
	}
	return text + end
}

// TestFlawsOfKinds has fields that are not valid. The name of each is to blame.
func TestFlawsOfKinds(t *testing.T) {
	for _, field := range []string{
		"uint 0 0..0", "uint 33 0..9", "uint 8 0..256", "uint 8 9..8", "uint 8 little 0..9", "uint 17 little 0..9", "uint 4611686018427387904 0..9", "uint 8 0..4611686018427387904", "uint 32 little 4294967296..4294967296",
		"const 0 = 0", "const 8 = 256", "const 8 little = 0", "const 1 = 4611686018427387904", "const 4611686018427387903 = 0",
		"varint 0..34359738368", "varint 5..4", "varint 5..4 loose", "varint 4611686018427387904..4611686018427387904",
		"bytes [x]", "bytes [f]", "bytes [q]", "bytes [n-1]", "bytes [-n]", "bytes [-1]", "bytes [-1048576]", "bytes [n+1048576]", "bytes [1048576*n]", "bytes [m]", "bytes [-n+14]",
		"until 256 max 1", "until 0 max 1048577", "until 4611686018427387904 max 0", "headers max 1", "headers max 0", "headers max 1048577", "headers max 4611686018427387904 loose",
		"list [n] of m", "list [n] of x", "list [n-1] of a", "list [x] of a", "list [n] of n", "message m", "message x", "message n", "message f",
		"choice x { 0..1: a; }", "choice q { 0..1: a; }", "choice f { 0..1: a; }", "choice n { }", "choice n { 0..16: a; }", "choice n { 0..1: x; }", "choice n { 0..1: m; }", "choice n { 1..1: a; 0..0: a; }", "choice n { 0..4611686018427387904: a; }", "choice c { 6..6: a; }", "choice n { 4611686018427387904..4611686018427387904: a; 0..0: a; }",
		"pad 0", "pad 1", "pad 3", "pad 9", "pad 520", "pad 4611686018427387904", "check 0 from n", "check 4 from n", "check 1 from f", "check 1 from x", "check 1 from m", "check 4611686018427387904 from n",
		"view [n] of m key 0", "view [n] of x key 0", "view [n] of a key 4294967296", "view [n] of a key 4611686018427387904", "view [n-1] of a key 0", "view [x] of a key 0",
	} {
		text := framed(field)
		refused(t, text, placeOf(text, strings.Index(text, "f: ")), api.ErrArg)
	}
	loose := "protocol p; message l { v: varint 0..9 loose; } message o { w: message l; } message m { %: view [1] of o key 0; } start m;"
	refused(t, strings.Replace(loose, "%", "f", 1), placeOf(loose, strings.Index(loose, "%")), api.ErrArg)
	parsed(t, strings.Replace(strings.Replace(loose, "%", "f", 1), " loose", "", 1))
}

func TestLongTexts(t *testing.T) {
	const most = 20000
	start := "protocol d; message m { b: bytes ["
	refused(t, start+strings.Repeat("n+", most)+"n]; } start m;", placeOf(start, len(start)), api.ErrFormat)
	refused(t, start+strings.Repeat("[", most), place(1, 1+len(start)+most), api.ErrShort)
	refused(t, start+strings.Repeat("n ", most)+"]", placeOf(start, len(start)), api.ErrFormat)
	refused(t, "protocol d;"+strings.Repeat("message m{", most), place(1, 30), api.ErrFormat)
	refused(t, "protocol d;"+strings.Repeat("message m{a:pad 8;}", most)+"start m;", place(1, 10), api.ErrArg)
	refused(t, "protocol d; message m {"+strings.Repeat("a:pad 8;", most)+"} start m;", place(1, 21), api.ErrArg)
	refused(t, "protocol d; message m {n:uint 8 0..1; c: choice n{"+strings.Repeat("0..0:m;", most)+"}; } start m;", place(1, 39), api.ErrArg)
}
