package source_test

import (
	"math"
	"testing"

	"phrasebook/api"
	"phrasebook/source"
)

func TestUntil(t *testing.T) {
	for _, c := range []struct {
		name   string
		buffer []byte
		end    byte
		most   int
		want   []byte
		rest   []byte
	}{
		{"at first", []byte{5, 1, 2}, 5, 3, nil, []byte{1, 2}},
		{"at first, with nothing ahead", []byte{5, 1, 2}, 5, 0, nil, []byte{1, 2}},
		{"alone", []byte{5}, 5, 0, nil, nil},
		{"in between", []byte{1, 5, 2}, 5, 3, []byte{1}, []byte{2}},
		{"as many ahead as allowed", []byte{1, 5, 2}, 5, 1, []byte{1}, []byte{2}},
		{"at last", []byte{1, 2, 5}, 5, 3, []byte{1, 2}, nil},
		{"at last of a full one", []byte{1, 2, 3, 5}, 5, 3, []byte{1, 2, 3}, nil},
		{"several", []byte{1, 5, 5, 5}, 5, 3, []byte{1}, []byte{5, 5}},
		{"two that are close", []byte{5, 5}, 5, 0, nil, []byte{5}},
		{"the byte 0", []byte{1, 2, 0, 3}, 0, 3, []byte{1, 2}, []byte{3}},
		{"the byte 255", []byte{254, 255, 253}, 255, 2, []byte{254}, []byte{253}},
	} {
		s := made(t, 4, c.buffer...)
		run(t, s, call{c.name, until(c.end, c.most), c.want, api.OK})
		state(t, s, c.name, 4, len(c.want)+1, false, c.rest...)
		o := ended(t, 4, c.buffer...)
		run(t, o, call{c.name, until(c.end, c.most), c.want, api.OK})
		state(t, o, c.name, 4, len(c.want)+1, true, c.rest...)
	}
}

func TestUntilErrors(t *testing.T) {
	for _, c := range []struct {
		name         string
		buffer       []byte
		most         int
		open, closed api.Errno
	}{
		{"nothing", nil, 0, api.ErrShort, api.ErrNone},
		{"nothing, many allowed", nil, 3, api.ErrShort, api.ErrNone},
		{"as many as allowed", []byte{1}, 1, api.ErrShort, api.ErrNone},
		{"3 as allowed", []byte{1, 2, 3}, 3, api.ErrShort, api.ErrNone},
		{"one more", []byte{1}, 0, api.ErrLong, api.ErrLong},
		{"one more than 2", []byte{1, 2, 3}, 2, api.ErrLong, api.ErrLong},
		{"a full one", []byte{1, 2, 3, 4}, 3, api.ErrLong, api.ErrLong},
		{"two more", []byte{1, 2, 3}, 1, api.ErrLong, api.ErrLong},
		{"the byte is too far", []byte{1, 5}, 0, api.ErrLong, api.ErrLong},
		{"the byte is behind 3", []byte{1, 2, 3, 5}, 2, api.ErrLong, api.ErrLong},
		{"below 0", []byte{5}, -1, api.ErrArg, api.ErrArg},
		{"far below 0", []byte{5}, math.MinInt, api.ErrArg, api.ErrArg},
		{"the limit", []byte{5}, 4, api.ErrRange, api.ErrRange},
		{"the limit, of a full one", []byte{1, 2, 3, 5}, 4, api.ErrRange, api.ErrRange},
		{"above the limit", nil, 5, api.ErrRange, api.ErrRange},
		{"far above the limit", []byte{1, 2, 3, 4}, math.MaxInt, api.ErrRange, api.ErrRange},
	} {
		s := made(t, 4, c.buffer...)
		run(t, s, call{c.name, until(5, c.most), nil, c.open})
		state(t, s, c.name, 4, 0, false, c.buffer...)
		o := ended(t, 4, c.buffer...)
		run(t, o, call{c.name, until(5, c.most), nil, c.closed})
		state(t, o, c.name, 4, 0, true, c.buffer...)
	}
}

func TestUntilOfTheLeastLimit(t *testing.T) {
	s := made(t, 1)
	run(t, s,
		call{"nothing", until(5, 0), nil, api.ErrShort},
		call{"1 of 1", until(5, 1), nil, api.ErrRange},
		call{"Feed(4)", feed(4), nil, api.OK},
		call{"another byte", until(5, 0), nil, api.ErrLong},
		call{"the byte", until(4, 0), nil, api.OK},
		call{"nothing again", until(4, 0), nil, api.ErrShort},
		call{"Close", shut, nil, api.OK},
		call{"nothing at the end", until(4, 0), nil, api.ErrNone},
	)
	state(t, s, "behind it", 1, 1, true)
}

func TestUntilOfTheGreatestLimit(t *testing.T) {
	whole := make([]byte, source.MaxLimit)
	whole[source.MaxLimit-1] = 1
	s := made(t, source.MaxLimit, whole...)
	run(t, s,
		call{"the limit", until(1, source.MaxLimit), nil, api.ErrRange},
		call{"2 less", until(1, source.MaxLimit-2), nil, api.ErrLong},
		call{"another byte", until(2, source.MaxLimit-1), nil, api.ErrLong},
		call{"1 less", until(1, source.MaxLimit-1), whole[:source.MaxLimit-1], api.OK},
	)
	state(t, s, "behind it", source.MaxLimit, source.MaxLimit, false)
}

func TestUntilWaits(t *testing.T) {
	s := made(t, 4)
	for _, b := range []byte{1, 2} {
		run(t, s, call{"too early", until(5, 2), nil, api.ErrShort})
		s.Feed([]byte{b})
	}
	run(t, s, call{"still too early", until(5, 2), nil, api.ErrShort})
	s.Feed([]byte{5, 6})
	run(t, s, call{"there", until(5, 2), []byte{1, 2}, api.OK})
	state(t, s, "behind it", 4, 3, false, 6)
}
