package size_test

import (
	"strings"
	"testing"

	"phrasebook/api"
	"phrasebook/size"
)

func TestTextAndParse(t *testing.T) {
	long := "n" + strings.Repeat("_9", 15) + "N"
	for _, x := range []struct {
		s    api.Size
		want string
	}{
		{api.Size{}, "0"},
		{made(7), "7"},
		{made(-7), "-7"},
		{made(10), "10"},
		{made(most), "1048576"},
		{made(-most), "-1048576"},
		{made(0, term(1, "n")), "n"},
		{made(0, term(-1, "n")), "-n"},
		{made(0, term(2, "n")), "2*n"},
		{made(0, term(-2, "n")), "-2*n"},
		{made(0, term(10, "n")), "10*n"},
		{made(0, term(-11, "n")), "-11*n"},
		{made(0, term(most, "n")), "1048576*n"},
		{made(0, term(-most, "n")), "-1048576*n"},
		{made(1, term(1, "n")), "n+1"},
		{made(-1, term(1, "n")), "n-1"},
		{made(-8, term(1, "n")), "n-8"},
		{made(3, term(-1, "n")), "-n+3"},
		{made(0, term(1, "n"), term(1, "m")), "n+m"},
		{made(0, term(-1, "n"), term(-1, "m")), "-n-m"},
		{made(4, term(2, "n"), term(-1, "m")), "2*n-m+4"},
		{made(4, term(-1, "m"), term(2, "n")), "-m+2*n+4"},
		{made(-8, term(-1, "n"), term(-5, "m")), "-n-5*m-8"},
		{made(0, term(1, "d"), term(1, "c"), term(1, "b"), term(1, "a")), "d+c+b+a"},
		{made(-most, term(-most, "d"), term(most, "c"), term(-1, "b"), term(12, "a1_Z")), "-1048576*d+1048576*c-b+12*a1_Z-1048576"},
		{made(9, term(3, long), term(-1, "n")), "3*" + long + "-n+9"},
	} {
		if s, e := size.Text(x.s); s != x.want || e != api.OK {
			t.Errorf("%v: %q, code %d, not %q", x.s, s, e, x.want)
		}
		if s, e := size.Parse(x.want); !identical(s, x.s) || e != api.OK {
			t.Errorf("%q: %v, code %d, not %v", x.want, s, e, x.s)
		}
	}
}

func TestTextOfWrongSizes(t *testing.T) {
	for _, s := range wrongSizes() {
		if text, e := size.Text(s); text != "" || e != api.ErrArg {
			t.Errorf("%v: %q, code %d", s, text, e)
		}
	}
}

func TestParseErrors(t *testing.T) {
	many := strings.Repeat("a", 200000)
	wrong := strings.Fields(`
		+ - * ++ +- -+ -- ** -* +*
		+0 -0 00 01 -01 007 0x1 1_0 1.0 1e3 1. .5 1048577 -1048577 9223372036854775807 -9223372036854775808 9223372036854775808 18446744073709551617 340282366920938463463374607431768211456
		n+0 n-0 n+00 n+01 n-01 n+1048577 n-1048577 +n ++n -+n +-n --n n- n+ n* *n -*n n+*m n*m n**m
		1*n -1*n 0*n -0*n 01*n 00*n +2*n 2*+n 2*-n 2* -2* 2** 2**n 2*n*3 2*3 2*2*n 2*n* n*2 n*m*2 2n n2*m 1048577*n -1048577*n 9223372036854775808*n -9223372036854775809*n
		n+1*m n-1*m n+0*m n+02*m n++m n+-m n-+m n--m n--1 n+-1 n-+1 2*n+ 2*n-
		4+n 0+n 0-n -4+n n+1+1 n+1-1 n+4+m 1+1 1-1 0+0
		n+n n-n n+2*n 2*n+2*n n+m+n a+b+c+c a+b+c+a+1
		a+b+c+d+e a-b-c-d-e+1 a+b+c+d+1+1 a+b+c+d+1+e a+b+c+d+ a+b+c+d+1- a+b+c+d+a
		_n 1n n.m n/m (n) [n] n;m n=1 2*1n 2*_n n+1m n+_m n,m #n "n" n# n:8 n..m !n
		` + strings.Repeat("n", 33) + " " + "2*" + strings.Repeat("n", 33) + " a+" + strings.Repeat("n", 33))
	wrong = append(wrong, "", " ", "n ", " n", "n +1", "n+ 1", "n+1 ", "2 *n", "2* n", "- n", "-\t1", "1\n", "\n", "n\x00", "\x00", "\xFF", "n+\xFF", "\xC3\xA4", "n+\xC3\xA4", "\xEF\xBC\x91", "2\xC2\xB7n", "n\xE2\x88\x921")
	wrong = append(wrong, many, many+"+1", "1*"+many, strings.Repeat("1", 200000), strings.Repeat("0", 200000), strings.Repeat("-", 200000), strings.Repeat("a+", 200000)+"a", strings.Repeat("2*", 200000)+"a", strings.Repeat("1+", 200000)+"1")
	for _, text := range wrong {
		if s, e := size.Parse(text); !empty(s) || e != api.ErrFormat {
			t.Errorf("%.80q: %v, code %d", text, s, e)
		}
	}
}
