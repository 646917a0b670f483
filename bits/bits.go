// Package bits writes and reads bit strings (layer 1, see shared/doc/01-bits.md).
package bits

import (
	"iter"
	"slices"

	"phrasebook/api"
)

const (
	maxString = 8 * api.MaxLength // bits of a writer
	maxLittle = 4                 // bytes of a little number
	maxBorder = 4096              // bits of which the place behind Align or Pad is a multiple
)

// bitString is a bit string and a place in it. In a writer the place is always the end.
type bitString struct {
	made  bool // tells an empty bit string from that of a zero object, which is none
	bytes []byte
	place int // number of bits ahead
}

func (s *bitString) aligned() bool { return s.place%8 == 0 }

// border returns the next place whose number of bits ahead is a multiple of bits.
func (s *bitString) border(bits int) int { return (s.place + bits - 1) / bits * bits }

func (s *bitString) copied() bitString {
	return bitString{made: s.made, bytes: slices.Clone(s.bytes), place: s.place}
}

// condition is an error, and whether it applies. That is a function, since it may be
// meaningless, and even panic, while an earlier condition of the call applies.
type condition struct {
	code    api.Errno
	applies func() bool
}

// firstError returns the code of the first condition that applies, or OK.
func firstError(conditions ...condition) api.Errno {
	i := slices.IndexFunc(conditions, func(c condition) bool { return c.applies() })
	if i < 0 {
		return api.OK
	}
	return conditions[i].code
}

// fits reports whether a number can be written in a number of bits.
func fits(v, bits int) bool { return v >= 0 && v < 1<<bits }

func within(n, least, most int) bool { return n >= least && n <= most }

// digits yields the lowest bits of a number, the most significant one first.
func digits(v, bits int) iter.Seq[bool] {
	return func(yield func(bool) bool) {
		for i := bits - 1; i >= 0; i-- {
			if !yield(v>>i&1 == 1) {
				return
			}
		}
	}
}
