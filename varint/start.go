package varint

import (
	"slices"

	"phrasebook/api"
)

const (
	groupBits = 7              // bits of the integer in each byte
	more      = 1 << groupBits // the least byte that has another one behind it
	maxBytes  = 5              // bytes of the longest form
)

// weight returns what the byte at an index of a form counts: bytes ahead of it sum up to less.
func weight(i int) int { return 1 << (groupBits * i) }

// form returns the form of an integer with a number of bytes that it fits into.
func form(v, n int) []byte {
	b := make([]byte, n)
	for i := range b {
		b[i] = byte(v/weight(i)%more + more)
	}
	b[n-1] -= more
	return b
}

// start is what bytes begin with: a form, or as many bytes as there are of one without its last byte.
type start struct {
	bytes []byte
	whole bool
}

// begin returns the start of bytes.
func begin(b []byte) start {
	n := min(len(b), maxBytes)
	last := slices.IndexFunc(b[:n:n], func(c byte) bool { return c < more })
	if last < 0 {
		return start{bytes: b[:n:n]}
	}
	return start{bytes: b[: last+1 : last+1], whole: true}
}

// sum returns what the bytes count together.
func (s start) sum() int {
	v := 0
	for i, c := range s.bytes {
		v += int(c%more) * weight(i)
	}
	return v
}

// allowed reports whether a whole form is one of those that are allowed.
func (s start) allowed(loose bool) bool {
	last := len(s.bytes) - 1
	return loose || last == 0 || s.bytes[last] > 0
}

// leads reports whether further bytes, at least one, make an allowed form of an integer in a range.
func (s start) leads(loose bool, r api.Range) bool {
	v, unit := s.sum(), weight(len(s.bytes))
	// Further bytes that sum up to 0 end with a 0, which a normal form does only if it is its only byte.
	if !loose && len(s.bytes) > 0 {
		v += unit
	}
	if v < r.Low {
		v += (r.Low - v + unit - 1) / unit * unit
	}
	return v <= r.High
}
