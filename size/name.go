package size

import "phrasebook/api"

// Name reports whether a text is a name.
func Name(s string) bool {
	if !within(len(s), 1, api.MaxName) || !ofLetter(s[0]) {
		return false
	}
	for i := range len(s) {
		if !ofName(s[i]) {
			return false
		}
	}
	return true
}

func ofLetter(b byte) bool { return b >= 'a' && b <= 'z' || b >= 'A' && b <= 'Z' }

func ofName(b byte) bool { return ofLetter(b) || b >= '0' && b <= '9' || b == '_' }
