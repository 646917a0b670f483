package cipher

import "slices"

const (
	stateWords = 16
	keyWords   = 8
	nonceWords = 3

	firstKey     = 4 // word of a state at which the key begins
	counterWord  = 12
	blockBytes   = 4 * stateWords
	doubleRounds = 10
)

// state is what a block is made of.
type state [stateWords]uint32

// newState returns the state with a key, a nonce and a counter that consist of words.
func newState(key, nonce []int, counter int) state {
	s := state{0x61707865, 0x3320646E, 0x79622D32, 0x6B206574}
	for i, word := range slices.Concat(key, []int{counter}, nonce) {
		s[firstKey+i] = uint32(word)
	}
	return s
}

// stateOf returns the state with the key of a number.
func stateOf(number, counter int) state {
	return newState(slices.Repeat([]int{number}, keyWords), make([]int, nonceWords), counter)
}

// quarter applies a quarter round to four words.
func (s *state) quarter(a, b, c, d int) {
	s[a], s[b], s[c], s[d] = Quarter(s[a], s[b], s[c], s[d])
}

// double applies a double round.
func (s *state) double() {
	s.quarter(0, 4, 8, 12)
	s.quarter(1, 5, 9, 13)
	s.quarter(2, 6, 10, 14)
	s.quarter(3, 7, 11, 15)
	s.quarter(0, 5, 10, 15)
	s.quarter(1, 6, 11, 12)
	s.quarter(2, 7, 8, 13)
	s.quarter(3, 4, 9, 14)
}

// block returns the block of a state, which stays as it is.
func (s *state) block() [blockBytes]byte {
	mixed := *s
	for range doubleRounds {
		mixed.double()
	}
	var b [blockBytes]byte
	for i := range mixed {
		word := mixed[i] + s[i]
		b[4*i], b[4*i+1], b[4*i+2], b[4*i+3] = byte(word), byte(word>>8), byte(word>>16), byte(word>>24)
	}
	return b
}

// isWord reports whether a number is a word.
func isWord(n int) bool { return n >= 0 && n < 1<<32 }

// areWords reports whether numbers are so many words.
func areWords(numbers []int, count int) bool {
	return len(numbers) == count && !slices.ContainsFunc(numbers, func(n int) bool { return !isWord(n) })
}
