package source

import "slices"

// buffer is the bytes that have arrived and have not been taken. They are never overwritten:
// what is put goes behind them, and what is dropped is left behind. So no call moves the rest.
type buffer struct{ bytes []byte }

func (b *buffer) size() int { return len(b.bytes) }

// first returns the first n bytes, which are still those of the buffer. They end with their
// capacity, so that what is appended to them does not reach those behind them.
func (b *buffer) first(n int) []byte { return b.bytes[:n:n] }

func (b *buffer) drop(n int) { b.bytes = b.bytes[n:] }

func (b *buffer) put(chunk []byte) { b.bytes = append(b.bytes, chunk...) }

func (b *buffer) copied() buffer { return buffer{slices.Clone(b.bytes)} }
