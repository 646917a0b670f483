package bits

import (
	"iter"
	"slices"

	"phrasebook/api"
)

// Reader reads a bit string.
type Reader struct{ bitString }

// NewReader returns a reader of bytes.
func NewReader(b []byte) (*Reader, api.Errno) {
	e := firstError(condition{api.ErrArg, func() bool { return len(b) > api.MaxLength }})
	if e != api.OK {
		return nil, e
	}
	return &Reader{bitString{made: true, bytes: slices.Clone(b)}}, api.OK
}

// Get reads a number of bits.
func (r *Reader) Get(bits int) (int, api.Errno) {
	e := firstError(
		condition{api.ErrNil, r.none},
		condition{api.ErrArg, func() bool { return !within(bits, 1, api.MaxBits) }},
		condition{api.ErrShort, func() bool { return bits > r.Left() }},
	)
	if e != api.OK {
		return 0, e
	}
	v := r.number(bits)
	r.place += bits
	return v, api.OK
}

// Little reads a little number of bytes.
func (r *Reader) Little(bytes int) (int, api.Errno) {
	e := firstError(
		condition{api.ErrNil, r.none},
		condition{api.ErrArg, func() bool { return !within(bytes, 1, maxLittle) }},
		condition{api.ErrState, func() bool { return !r.aligned() }},
		condition{api.ErrShort, func() bool { return 8*bytes > r.Left() }},
	)
	if e != api.OK {
		return 0, e
	}
	v := 0
	for i, b := range r.cut(bytes) {
		v |= int(b) << (8 * i)
	}
	return v, api.OK
}

// Take reads bytes.
func (r *Reader) Take(bytes int) ([]byte, api.Errno) {
	e := firstError(
		condition{api.ErrNil, r.none},
		condition{api.ErrArg, func() bool { return bytes < 0 }},
		condition{api.ErrState, func() bool { return !r.aligned() }},
		condition{api.ErrShort, func() bool { return bytes > r.Left()/8 }},
	)
	if e != api.OK {
		return nil, e
	}
	return slices.Clone(r.cut(bytes)), api.OK
}

// Skip passes bits.
func (r *Reader) Skip(bits int) api.Errno {
	e := firstError(
		condition{api.ErrNil, r.none},
		condition{api.ErrArg, func() bool { return bits < 0 }},
		condition{api.ErrShort, func() bool { return bits > r.Left() }},
	)
	if e != api.OK {
		return e
	}
	r.place += bits
	return api.OK
}

// Pad passes bits 0 up to a multiple of a number of bits.
func (r *Reader) Pad(bits int) api.Errno {
	e := firstError(
		condition{api.ErrNil, r.none},
		condition{api.ErrArg, func() bool { return !within(bits, 1, maxBorder) }},
		condition{api.ErrShort, func() bool { return r.border(bits)-r.place > r.Left() }},
		condition{api.ErrFormat, func() bool { return !r.blank(r.border(bits) - r.place) }},
	)
	if e != api.OK {
		return e
	}
	r.place = r.border(bits)
	return api.OK
}

// Left returns the number of bits that have not been read.
func (r *Reader) Left() int {
	if r.none() {
		return 0
	}
	return 8*len(r.bytes) - r.place
}

// Place returns the number of bits ahead.
func (r *Reader) Place() int {
	if r.none() {
		return 0
	}
	return r.place
}

// Bits yields the bits from the place on.
func (r *Reader) Bits() iter.Seq[bool] {
	if r.none() {
		return func(func(bool) bool) {}
	}
	// The place moves on with later calls; the bytes never change.
	bytes, place := r.bytes, r.place
	return func(yield func(bool) bool) {
		for i := place; i < 8*len(bytes); i++ {
			if !yield(bytes[i/8]>>(7-i%8)&1 == 1) {
				return
			}
		}
	}
}

// Copy returns an independent reader.
func (r *Reader) Copy() *Reader {
	if r.none() {
		return nil
	}
	return &Reader{r.copied()}
}

func (r *Reader) none() bool { return r == nil || !r.made }

// number returns the number that the next bits are.
func (r *Reader) number(bits int) int {
	v := 0
next:
	for bit := range r.Bits() {
		switch {
		case bits == 0:
			break next
		case bit:
			v = 2*v + 1
		default:
			v = 2 * v
		}
		bits--
	}
	return v
}

// blank reports whether the next bits are 0.
func (r *Reader) blank(bits int) bool {
	zeros := 0
next:
	for bit := range r.Bits() {
		switch {
		case bit || zeros == bits:
			break next
		default:
			zeros++
		}
	}
	return zeros == bits
}

// cut passes bytes at an aligned place. They are still those of the reader.
func (r *Reader) cut(bytes int) []byte {
	first := r.place / 8
	r.place += 8 * bytes
	return r.bytes[first : first+bytes : first+bytes]
}
