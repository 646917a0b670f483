package check

const (
	kindOnes  = 1
	kindCRC   = 2
	kindAdler = 3
)

const (
	half    = 1 << 16 // one more than the greatest number of 16 bits
	divisor = 0x1021  // what the register of the CRC is combined with
	prime   = 65521   // both numbers of Adler-32 are below
)

// rule is how checksums of one kind are computed.
type rule struct {
	bits  int
	start state // that of no bytes
	add   func(*state, []byte)
	sum   func(*state) int
}

// ruleOf returns how the checksums of a kind that exists are computed.
func ruleOf(kind int) rule {
	all := [...]rule{
		kindOnes - 1:  {bits: 16, add: (*state).addOnes, sum: (*state).onesSum},
		kindCRC - 1:   {bits: 16, start: state{low: half - 1}, add: (*state).addCRC, sum: (*state).crcSum},
		kindAdler - 1: {bits: 32, start: state{low: 1}, add: (*state).addAdler, sum: (*state).adlerSum},
	}
	return all[kind-1]
}

// exists reports whether there are checksums of a kind.
func exists(kind int) bool { return kind >= kindOnes && kind <= kindAdler }

// fits reports whether a number has no more bits than the checksums of a kind that exists.
func fits(kind, sum int) bool { return sum >= 0 && sum < 1<<ruleOf(kind).bits }

// state is how far a checksum is computed: only Adler-32 needs two numbers.
type state struct {
	low, high int
	length    int // number of bytes written
}

// addOnes adds bytes to the sum in ones' complement.
func (s *state) addOnes(b []byte) {
	for i, c := range b {
		number := int(c)
		if (s.length+i)%2 == 0 {
			number *= 256
		}
		// The part above 16 bits may be added early: the sum of all numbers ends the same.
		s.low += number
		s.low = s.low/half + s.low%half
	}
}

func (s *state) onesSum() int { return half - 1 - s.low }

// addCRC adds bytes to the register of the CRC.
func (s *state) addCRC(b []byte) {
	for _, c := range b {
		s.low ^= int(c) * 256
		for range 8 {
			s.low *= 2
			if s.low >= half {
				s.low = s.low%half ^ divisor
			}
		}
	}
}

func (s *state) crcSum() int { return s.low }

// addAdler adds bytes to both numbers of Adler-32.
func (s *state) addAdler(b []byte) {
	for _, c := range b {
		s.low = remainder(s.low + int(c))
		s.high = remainder(s.high + s.low)
	}
}

func (s *state) adlerSum() int { return s.high*half + s.low }

// remainder returns a number modulo the prime, from 0 on also below 0.
func remainder(v int) int { return (v%prime + prime) % prime }
