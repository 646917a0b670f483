package schema

import (
	"slices"

	"phrasebook/api"
)

// Equal reports whether two definitions are equal.
func Equal(a, b api.Definition) bool {
	return a.Name == b.Name && a.Start == b.Start && slices.EqualFunc(a.Messages, b.Messages, equalMessages)
}

func equalMessages(a, b api.Message) bool {
	return a.Name == b.Name && slices.EqualFunc(a.Fields, b.Fields, equalFields)
}

func equalFields(a, b api.Field) bool {
	return outlineOf(a) == outlineOf(b) && slices.Equal(a.Size.Terms, b.Size.Terms) && slices.Equal(a.Cases, b.Cases)
}

// Copy returns an independent definition.
func Copy(d api.Definition) api.Definition {
	d.Messages = replaced(d.Messages, func(m api.Message) api.Message {
		m.Fields = replaced(m.Fields, func(f api.Field) api.Field {
			f.Size.Terms = slices.Clone(f.Size.Terms)
			f.Cases = slices.Clone(f.Cases)
			return f
		})
		return m
	})
	return d
}

// replaced returns a new list with something else in place of each thing in a list.
func replaced[T, U any](list []T, other func(T) U) []U {
	l := make([]U, len(list))
	for i, x := range list {
		l[i] = other(x)
	}
	return l
}
