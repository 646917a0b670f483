package schema

import (
	"iter"
	"slices"

	"phrasebook/api"
)

// Refers yields the names of the messages to which a message refers.
func Refers(m api.Message) iter.Seq[string] {
	var names []string
	seen := map[string]bool{}
	for _, f := range m.Fields {
		for _, name := range targets(f) {
			if !seen[name] {
				seen[name] = true
				names = append(names, name)
			}
		}
	}
	return slices.Values(names)
}

// targets returns the names of the messages to which a field refers.
func targets(f api.Field) []string {
	switch f.Kind {
	case api.KindList, api.KindMessage, api.KindView:
		return []string{f.Of}
	case api.KindChoice:
		return replaced(f.Cases, func(c api.Case) string { return c.Of })
	}
	return nil
}

// Depth returns the depth of a message.
func Depth(d api.Definition, message int) (int, api.Errno) {
	n, e := natureIn(d, message)
	return n.depth, e
}

// Strict reports whether a message is strict.
func Strict(d api.Definition, message int) (bool, api.Errno) {
	n, e := natureIn(d, message)
	return n.strict, e
}

// nature is what a message owes to its fields and to the messages to which they refer.
type nature struct {
	depth  int
	strict bool
}

// natureOf returns the nature of a message that refers only to known ones.
func natureOf(m api.Message, known map[string]nature) nature {
	n := nature{depth: 1, strict: !slices.ContainsFunc(m.Fields, func(f api.Field) bool { return f.Loose })}
	for name := range Refers(m) {
		n.depth = max(n.depth, 1+known[name].depth)
		n.strict = n.strict && known[name].strict
	}
	return n
}

// natureIn returns the nature of a message of a definition.
func natureIn(d api.Definition, message int) (nature, api.Errno) {
	known, _, flawed := examine(d)
	switch {
	case flawed:
		return nature{}, api.ErrArg
	case !within(message, 0, len(d.Messages)-1):
		return nature{}, api.ErrRange
	}
	return known[d.Messages[message].Name], api.OK
}
