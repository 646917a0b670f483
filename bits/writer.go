package bits

import (
	"slices"

	"phrasebook/api"
)

// Writer is a bit string in the making.
type Writer struct{ bitString }

// NewWriter returns a writer with an empty bit string.
func NewWriter() *Writer { return &Writer{bitString{made: true}} }

// Put writes a number of bits.
func (w *Writer) Put(v, bits int) api.Errno {
	e := firstError(
		condition{api.ErrNil, w.none},
		condition{api.ErrArg, func() bool { return !within(bits, 1, api.MaxBits) || !fits(v, bits) }},
		condition{api.ErrFull, func() bool { return bits > w.room() }},
	)
	if e != api.OK {
		return e
	}
	for bit := range digits(v, bits) {
		w.add(bit)
	}
	return api.OK
}

// Little writes a little number of bytes.
func (w *Writer) Little(v, bytes int) api.Errno {
	e := firstError(
		condition{api.ErrNil, w.none},
		condition{api.ErrArg, func() bool { return !within(bytes, 1, maxLittle) || !fits(v, 8*bytes) }},
		condition{api.ErrState, func() bool { return !w.aligned() }},
		condition{api.ErrFull, func() bool { return 8*bytes > w.room() }},
	)
	if e != api.OK {
		return e
	}
	for i := range bytes {
		w.extend(byte(v >> (8 * i)))
	}
	return api.OK
}

// Bytes writes bytes.
func (w *Writer) Bytes(b []byte) api.Errno {
	e := firstError(
		condition{api.ErrNil, w.none},
		condition{api.ErrState, func() bool { return !w.aligned() }},
		condition{api.ErrFull, func() bool { return 8*len(b) > w.room() }},
	)
	if e != api.OK {
		return e
	}
	w.extend(b...)
	return api.OK
}

// Align writes bits 0 up to a multiple of a number of bits.
func (w *Writer) Align(bits int) api.Errno {
	e := firstError(
		condition{api.ErrNil, w.none},
		condition{api.ErrArg, func() bool { return !within(bits, 1, maxBorder) }},
		condition{api.ErrFull, func() bool { return w.border(bits) > maxString }},
	)
	if e != api.OK {
		return e
	}
	for range w.border(bits) - w.place {
		w.add(false)
	}
	return api.OK
}

// Len returns the number of bits.
func (w *Writer) Len() int {
	if w.none() {
		return 0
	}
	return w.place
}

// Out returns the bytes.
func (w *Writer) Out() []byte {
	if w.none() {
		return nil
	}
	return slices.Clone(w.bytes)
}

// Copy returns an independent writer.
func (w *Writer) Copy() *Writer {
	if w.none() {
		return nil
	}
	return &Writer{w.copied()}
}

func (w *Writer) none() bool { return w == nil || !w.made }

func (w *Writer) room() int { return maxString - w.place }

func (w *Writer) add(bit bool) {
	if w.aligned() {
		w.bytes = append(w.bytes, 0)
	}
	if bit {
		w.bytes[w.place/8] |= 0x80 >> (w.place % 8)
	}
	w.place++
}

// extend adds whole bytes at an aligned place.
func (w *Writer) extend(b ...byte) {
	w.bytes = append(w.bytes, b...)
	w.place += 8 * len(b)
}
