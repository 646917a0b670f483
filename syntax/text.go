package syntax

import (
	"phrasebook/api"
	"phrasebook/token"
)

// text is what a text says: a definition, and the places of its names.
type text struct {
	definition      api.Definition
	protocol, start token.Place     // of the names behind these words
	messages        [][]token.Place // of the name of each message, and behind it those of its fields
}

// has reports whether there is a field of a message, or a message if the field is -1.
func (x text) has(message, field int) bool {
	return within(message, 0, len(x.messages)-1) && within(field, -1, len(x.messages[message])-2)
}

// nameOf returns the place of the name of a field of a message, or of the message if the field
// is -1.
func (x text) nameOf(message, field int) token.Place { return x.messages[message][field+1] }

// blamed returns the place of the name that is to blame for a flaw.
func (x text) blamed(flaw api.Flaw) token.Place {
	switch {
	case flaw.Code == api.FlawStart:
		return x.start
	case flaw.Message < 0:
		return x.protocol
	}
	return x.nameOf(flaw.Message, flaw.Field)
}

func within(n, least, most int) bool { return n >= least && n <= most }
