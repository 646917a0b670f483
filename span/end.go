package span

import "phrasebook/api"

// end returns an end of a range, the lower or the upper one.
type end func(api.Range) int

// both returns the range of which a calculation gives both ends. Capping what each calculation
// gives is the same as capping all numbers, as nothing is ever subtracted.
func both(number func(of end) int) api.Range {
	low := func(r api.Range) int { return r.Low }
	high := func(r api.Range) int { return r.High }
	return api.Range{Low: min(number(low), MaxSpan), High: min(number(high), MaxSpan)}
}

// exactly returns the range of a single number.
func exactly(n int) api.Range { return api.Range{Low: n, High: n} }

// units returns how many units of a size hold a number of things.
func units(n, size int) int { return (n + size - 1) / size }
