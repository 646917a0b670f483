package scope

import "phrasebook/api"

// link says that a field uses another one.
type link struct{ user, used int }

// links returns the links between the fields of a message.
func links(m api.Message) map[link]bool {
	found := map[link]bool{}
	first := map[string]int{} // field with a name, of those that were passed
	user := 0
	kinds := usage(func(name string) {
		if used, passed := first[name]; passed {
			found[link{user, used}] = true
		}
	})
	for i, f := range m.Fields {
		user = i
		if use, uses := kinds[f.Kind]; uses {
			use(f)
		}
		// A name is entered behind its field, as it counts only for the fields that follow.
		if _, twice := first[f.Name]; !twice {
			first[f.Name] = i
		}
	}
	return found
}

// usage returns, for each kind whose fields use others, what calls a function with their names.
func usage(use func(name string)) map[api.Kind]func(api.Field) {
	sized := func(f api.Field) {
		for _, t := range f.Size.Terms {
			use(t.Field)
		}
	}
	return map[api.Kind]func(api.Field){
		api.KindBytes:  sized,
		api.KindList:   sized,
		api.KindView:   sized,
		api.KindChoice: func(f api.Field) { use(f.Tag) },
		api.KindCheck:  func(f api.Field) { use(f.From) },
	}
}
