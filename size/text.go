package size

import (
	"strconv"
	"strings"

	"phrasebook/api"
)

// Text returns the text of a size.
func Text(s api.Size) (string, api.Errno) {
	if !Valid(s) {
		return "", api.ErrArg
	}
	text := ""
	for _, t := range s.Terms {
		text += written(t)
	}
	if s.Base != 0 || text == "" {
		text += signed(s.Base)
	}
	return strings.TrimPrefix(text, "+"), api.OK
}

// Parse returns the size with a text.
func Parse(s string) (api.Size, api.Errno) {
	parsed := read(s)
	// A size has one text only: what was read in another form, or not up to the end, is written
	// in a different way.
	if text, e := Text(parsed); e != api.OK || text != s {
		return api.Size{}, api.ErrFormat
	}
	return parsed, api.OK
}

// written returns a term with its sign, as it stands behind another part.
func written(t api.Term) string {
	switch t.Factor {
	case 1:
		return "+" + t.Field
	case -1:
		return "-" + t.Field
	}
	return signed(t.Factor) + "*" + t.Field
}

// signed returns a number with its sign, if it is not 0.
func signed(n int) string {
	if n > 0 {
		return "+" + strconv.Itoa(n)
	}
	return strconv.Itoa(n)
}

// read returns the size of the parts of a text, in whatever form they are written. It does not
// go on behind a base or MaxTerms terms, however long the text is. The size need not be valid.
func read(text string) api.Size {
	var s api.Size
parts:
	for text != "" {
		part, rest := cut(text)
		t := term(part)
		switch {
		case t.Field == "":
			s.Base = t.Factor
			break parts
		case len(s.Terms) == api.MaxTerms:
			break parts
		}
		s.Terms, text = append(s.Terms, t), rest
	}
	return s
}

// cut returns the first part of a text, which ends ahead of the sign of the next one.
func cut(text string) (part, rest string) {
	i := strings.IndexAny(text[1:], "+-")
	if i < 0 {
		return text, ""
	}
	return text[:1+i], text[1+i:]
}

// term returns a part of a text as a term, or one without a field for a base. It leaves it to
// Parse to see whether the part may be written so.
func term(part string) api.Term {
	number, field, _ := strings.Cut(part, "*")
	if factor, e := strconv.Atoi(number); e == nil {
		return api.Term{Field: field, Factor: factor}
	}
	if field, negative := strings.CutPrefix(part, "-"); negative {
		return api.Term{Field: field, Factor: -1}
	}
	return api.Term{Field: strings.TrimPrefix(part, "+"), Factor: 1}
}
