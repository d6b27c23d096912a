package fat

import (
	"slices"

	"clevis/api"
	"clevis/cursor"
)

// Make is a fat file of parts: its entries, then each part in order.
func Make(wide bool, l ...api.Member) ([]byte, api.Errno) {
	if len(l) == 0 || slices.ContainsFunc(l, func(m api.Member) bool { return !alignMay(m.Align) }) {
		return nil, api.ErrArg
	}
	if len(l) > api.MaxSlices {
		return nil, api.ErrMany
	}
	sh := shapeOf(wide)
	places, fits := seats(sh, l)
	if !fits {
		return nil, api.ErrMany
	}
	if twice(places) {
		return nil, api.ErrTwice
	}
	b := number([]byte(sh.magic), 4, uint64(len(l)))
	for _, s := range places {
		b = sh.put(b, s)
	}
	for i, s := range places {
		// A part of no bytes has its noughts, too: its place is to be within the file.
		b = append(b, make([]byte, s.Span.Off-uint64(len(b)))...)
		b = append(b, l[i].Bytes...)
	}
	return b, api.OK
}

// seats are the slices that parts become, in order; do all have room in a file?
func seats(sh shape, l []api.Member) ([]api.Slice, bool) {
	var places []api.Slice
	end := uint64(magicSize + 4 + len(l)*sh.size())
	for _, m := range l {
		span := api.Span{Off: roundUp(end, unit(m.Align)), Size: uint64(len(m.Bytes))}
		// Asked part by part, so that no end is ever much beyond a file's.
		if !cursor.Within(span.Off, span.Size, api.MaxFile) {
			return nil, false
		}
		places = append(places, api.Slice{Cpu: m.Cpu, Sub: m.Sub, Span: span, Align: m.Align})
		end = span.Off + span.Size
	}
	return places, true
}

// roundUp is the first place, from one on, that a unit divides.
func roundUp(at, unit uint64) uint64 {
	return (at + unit - 1) / unit * unit
}
