package schema

import (
	"phrasebook/api"
	"phrasebook/size"
)

// Check returns the first flaw of a definition.
func Check(d api.Definition) (api.Flaw, bool) {
	_, flaw, found := examine(d)
	return flaw, found
}

// Valid reports whether a definition is valid.
func Valid(d api.Definition) bool {
	_, found := Check(d)
	return !found
}

// examination goes through a definition in the order of its flaws. It panics with the first one,
// so that what it has passed is known to have none.
type examination struct {
	at     api.Flaw          // the place at which it is, without a code
	known  map[string]nature // of the messages that it has passed, by their names
	before []api.Field       // those that it has passed in the message
	kinds  map[api.Kind]func(api.Field)
}

// examine returns the natures of the messages of a definition, by their names, and its first flaw.
func examine(d api.Definition) (known map[string]nature, flaw api.Flaw, found bool) {
	defer func() { flaw, found = recover().(api.Flaw) }()
	x := examination{known: map[string]nature{}}
	x.kinds = x.conditions()
	x.definition(d)
	return x.known, api.Flaw{}, false
}

// demand panics with a flaw at the place unless a condition holds.
func (x *examination) demand(holds bool, code api.FlawCode) {
	if !holds {
		flaw := x.at
		flaw.Code = code
		panic(flaw)
	}
}

func (x *examination) definition(d api.Definition) {
	x.at = api.Flaw{Message: -1, Field: -1}
	x.demand(size.Name(d.Name), api.FlawName)
	x.demand(within(len(d.Messages), 1, api.MaxMessages), api.FlawCount)
	for i, m := range d.Messages {
		x.at = api.Flaw{Message: i, Field: -1}
		x.message(m)
	}
	x.at = api.Flaw{Message: -1, Field: -1}
	x.demand(x.passed(d.Start), api.FlawStart)
}

func (x *examination) message(m api.Message) {
	x.demand(size.Name(m.Name), api.FlawName)
	x.demand(!x.passed(m.Name), api.FlawTwice)
	x.demand(within(len(m.Fields), 1, api.MaxFields), api.FlawCount)
	for i, f := range m.Fields {
		x.at.Field = i
		x.before = m.Fields[:i]
		x.field(f)
	}
	x.at.Field = -1
	x.known[m.Name] = natureOf(m, x.known)
	x.demand(x.known[m.Name].depth <= api.MaxDepth, api.FlawDepth)
}

// passed reports whether a message with a name has been passed.
func (x *examination) passed(name string) bool {
	_, is := x.known[name]
	return is
}

func (x *examination) field(f api.Field) {
	x.demand(size.Name(f.Name), api.FlawName)
	_, twice := Field(api.Message{Fields: x.before}, f.Name)
	x.demand(!twice, api.FlawTwice)
	conditions, exists := x.kinds[f.Kind]
	x.demand(exists, api.FlawKind)
	x.demand(!spare(f), api.FlawUnused)
	conditions(f)
}
