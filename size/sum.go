package size

import (
	"maps"
	"slices"

	"phrasebook/api"
)

// Add returns the sum of two sizes.
func Add(a, b api.Size) (api.Size, api.Errno) {
	if !all(Valid(a), Valid(b)) {
		return api.Size{}, api.ErrArg
	}
	sum := api.Size{Base: a.Base + b.Base, Terms: collect(slices.Concat(a.Terms, b.Terms))}
	switch {
	case !small(sum.Base), slices.ContainsFunc(sum.Terms, large):
		return api.Size{}, api.ErrRange
	case len(sum.Terms) > api.MaxTerms:
		return api.Size{}, api.ErrFull
	}
	return sum, api.OK
}

// Normal returns the normal form of a size.
func Normal(s api.Size) (api.Size, api.Errno) {
	// Sums are in normal form, and nothing is added.
	return Add(s, api.Size{})
}

// Equal reports whether two sizes are equal.
func Equal(a, b api.Size) bool {
	x, e := Normal(a)
	y, f := Normal(b)
	return all(e == api.OK, f == api.OK, x.Base == y.Base, slices.Equal(x.Terms, y.Terms))
}

// collect returns one term for each name, in the order of names, with the sum of its factors,
// unless that is 0.
func collect(terms []api.Term) []api.Term {
	factors := map[string]int{}
	for _, t := range terms {
		factors[t.Field] += t.Factor
		if factors[t.Field] == 0 {
			delete(factors, t.Field)
		}
	}
	var l []api.Term
	for _, field := range slices.Sorted(maps.Keys(factors)) {
		l = append(l, api.Term{Field: field, Factor: factors[field]})
	}
	return l
}

func large(t api.Term) bool { return !small(t.Factor) }
