package token

// A class of bytes is a function that tells whether a byte belongs to it.

func ofBlank(b byte) bool { return b == ' ' || b == '\t' || b == '\n' || b == '\r' }

func ofComment(b byte) bool { return b != '\n' }

func ofQuoted(b byte) bool { return b >= 0x20 && b <= 0x7E && b != '"' }

func ofDigit(b byte) bool { return b >= '0' && b <= '9' }

func ofLetter(b byte) bool { return b >= 'a' && b <= 'z' || b >= 'A' && b <= 'Z' }

func ofWord(b byte) bool { return ofLetter(b) || ofDigit(b) || b == '_' }

// digit returns the number for which a digit stands, or 16 if it is none.
func digit(b byte) int {
	switch {
	case ofDigit(b):
		return int(b - '0')
	case b >= 'a' && b <= 'f':
		return int(b-'a') + 10
	case b >= 'A' && b <= 'F':
		return int(b-'A') + 10
	}
	return 16
}
