package schema

import (
	"slices"

	"phrasebook/api"
	"phrasebook/size"
)

const (
	byteMost  = 255
	leastRoom = 2 // bytes of headers, whose last line is an empty one
	checks    = 3
	padMost   = 512
	keyMost   = 1<<32 - 1
)

// conditions returns those of each kind.
func (x *examination) conditions() map[api.Kind]func(api.Field) {
	return map[api.Kind]func(api.Field){
		api.KindUint:    x.unsigned,
		api.KindConst:   x.constant,
		api.KindVarint:  x.varint,
		api.KindBytes:   x.size,
		api.KindUntil:   x.until,
		api.KindHeaders: x.headers,
		api.KindList:    x.list,
		api.KindMessage: x.nested,
		api.KindChoice:  x.choice,
		api.KindPad:     x.pad,
		api.KindCheck:   x.checksum,
		api.KindView:    x.view,
	}
}

func (x *examination) unsigned(f api.Field) {
	x.demand(within(f.Bits, 1, api.MaxBits), api.FlawBits)
	x.demand(!f.Little || f.Bits == 16 || f.Bits == 24 || f.Bits == 32, api.FlawBits)
	x.below(1<<f.Bits, f)
}

func (x *examination) constant(f api.Field) {
	f.High = f.Low
	x.unsigned(f)
}

func (x *examination) varint(f api.Field) { x.below(api.MaxVarint, f) }

// below examines the range of a field whose numbers are less than a limit.
func (x *examination) below(limit int, f api.Field) {
	x.demand(0 <= f.Low && f.Low <= f.High && f.High < limit, api.FlawRange)
}

func (x *examination) until(f api.Field) {
	x.demand(within(f.Low, 0, byteMost) && within(f.High, 0, api.MaxLength), api.FlawRange)
}

func (x *examination) headers(f api.Field) {
	x.demand(within(f.High, leastRoom, api.MaxLength), api.FlawRange)
}

func (x *examination) list(f api.Field) {
	x.nested(f)
	x.size(f)
}

func (x *examination) nested(f api.Field) { x.demand(x.passed(f.Of), api.FlawRefer) }

func (x *examination) choice(f api.Field) {
	tag, number := x.ranges()[f.Tag]
	taken := slices.ContainsFunc(x.before, func(b api.Field) bool {
		return b.Kind == api.KindChoice && b.Tag == f.Tag
	})
	x.demand(number && !taken, api.FlawRefer)
	x.demand(within(len(f.Cases), 1, api.MaxCases), api.FlawCount)
	least := tag.Low
	for _, c := range f.Cases {
		x.demand(least <= c.Low && c.Low <= c.High && c.High <= tag.High, api.FlawRange)
		x.demand(x.passed(c.Of), api.FlawRefer)
		least = c.High + 1
	}
}

func (x *examination) pad(f api.Field) {
	x.demand(f.Bits == 2 || f.Bits == 4 || within(f.Bits, 8, padMost) && f.Bits%8 == 0, api.FlawBits)
}

func (x *examination) checksum(f api.Field) {
	x.demand(within(f.Check, 1, checks), api.FlawRange)
	_, is := Field(api.Message{Fields: x.before}, f.From)
	x.demand(is, api.FlawRefer)
}

func (x *examination) view(f api.Field) {
	x.demand(within(f.Key, 0, keyMost), api.FlawRange)
	x.demand(x.known[f.Of].strict, api.FlawRefer)
	x.size(f)
}

// size examines the size of a field.
func (x *examination) size(f api.Field) {
	x.demand(size.Valid(f.Size), api.FlawSize)
	ranges := x.ranges()
	for name := range size.Names(f.Size) {
		_, number := ranges[name]
		x.demand(number, api.FlawRefer)
	}
	interval, _ := size.Interval(f.Size, ranges)
	x.demand(interval.Low >= 0 && interval.High <= api.MaxLength, api.FlawSize)
}

// ranges returns those of the numbers that have been passed in the message.
func (x *examination) ranges() map[string]api.Range {
	return Ranges(api.Message{Fields: x.before})
}
