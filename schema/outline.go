package schema

import "phrasebook/api"

// spare reports whether a field has something that its kind does not use.
func spare(f api.Field) bool {
	return outlineOf(cleared(f)) != outlineOf(api.Field{Name: f.Name, Kind: f.Kind})
}

// outline is a field in a form that can be compared: it has the lengths of the lists only.
type outline struct {
	name                           string
	kind                           api.Kind
	little, loose                  bool
	bits, low, high                int
	base, terms, cases, check, key int
	of, tag, from                  string
}

func outlineOf(f api.Field) outline {
	return outline{
		name: f.Name, kind: f.Kind, little: f.Little, loose: f.Loose,
		bits: f.Bits, low: f.Low, high: f.High,
		base: f.Size.Base, terms: len(f.Size.Terms), cases: len(f.Cases), check: f.Check, key: f.Key,
		of: f.Of, tag: f.Tag, from: f.From,
	}
}

// cleared returns a copy of a field without what its kind uses.
func cleared(f api.Field) api.Field {
	switch f.Kind {
	case api.KindUint:
		f.Bits, f.Little, f.Low, f.High = 0, false, 0, 0
	case api.KindConst:
		f.Bits, f.Little, f.Low = 0, false, 0
	case api.KindVarint:
		f.Loose, f.Low, f.High = false, 0, 0
	case api.KindBytes:
		f.Size = api.Size{}
	case api.KindUntil:
		f.Low, f.High = 0, 0
	case api.KindHeaders:
		f.Loose, f.High = false, 0
	case api.KindList:
		f.Of, f.Size = "", api.Size{}
	case api.KindMessage:
		f.Of = ""
	case api.KindChoice:
		f.Tag, f.Cases = "", nil
	case api.KindPad:
		f.Bits = 0
	case api.KindCheck:
		f.From, f.Check = "", 0
	case api.KindView:
		f.Of, f.Size, f.Key = "", api.Size{}, 0
	}
	return f
}
