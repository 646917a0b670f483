package syntax

import (
	"slices"
	"strconv"
	"strings"

	"phrasebook/api"
	"phrasebook/size"
)

// printed returns the printed text of a valid definition.
func printed(d api.Definition) string {
	kinds := kinds()
	var all strings.Builder
	all.WriteString("protocol " + d.Name + ";\n")
	for _, m := range d.Messages {
		all.WriteString("message " + m.Name + " {\n")
		for _, f := range m.Fields {
			k := kinds[f.Kind]
			all.WriteString("  " + f.Name + ": " + k.word + " " + k.write(f) + ";\n")
		}
		all.WriteString("}\n")
	}
	all.WriteString("start " + d.Start + ";\n")
	return all.String()
}

// spaced returns words with one space between them, without those that are empty.
func spaced(words ...string) string {
	return strings.Join(slices.DeleteFunc(words, func(w string) bool { return w == "" }), " ")
}

// only returns a word if it is to be written, or the empty one.
func only(is bool, word string) string {
	if is {
		return word
	}
	return ""
}

func decimal(n int) string { return strconv.Itoa(n) }

func between(low, high int) string { return decimal(low) + ".." + decimal(high) }

// bracketed returns the text of a valid size in brackets.
func bracketed(s api.Size) string {
	written, _ := size.Text(s)
	return "[" + written + "]"
}
