package rebase

import (
	"slices"

	"clevis/api"
	"clevis/fixup"
	"clevis/image"
	"clevis/leb"
)

// Make is the stream of rebases.
func Make(m api.Image, l ...api.Fixup) ([]byte, api.Errno) {
	set := fixup.Set(l...)
	if err := refusal(m, set); err != api.OK {
		return nil, err
	}
	return put(m, set), api.OK
}

// refusal is why a set has no stream; or OK.
func refusal(m api.Image, set []api.Fixup) api.Errno {
	switch {
	case slices.ContainsFunc(set, isOther) || fixup.Meet(set...):
		return api.ErrArg
	case len(set) > api.MaxFixups || slices.ContainsFunc(set, func(f api.Fixup) bool { return isFar(m, f.At) }):
		return api.ErrMany
	case slices.ContainsFunc(set, func(f api.Fixup) bool { return !image.Writable(m, f.At, wordSize) }):
		return api.ErrProt
	}
	return api.OK
}

// isOther: is a fixup no rebase, or none that may be?
func isOther(f api.Fixup) bool {
	return f.Kind != api.FixRebase || !fixup.May(f)
}

// isFar: has the number of an address's segment no room in an opcode? An image that is read has no such segment.
func isFar(m api.Image, addr uint64) bool {
	return image.At(m, addr) > immBits
}

// put lays the stream of a set that has one.
func put(m api.Image, set []api.Fixup) []byte {
	var b []byte
	say := func(what byte, imm int, numbers ...uint64) {
		b = append(b, what|byte(imm))
		for _, n := range numbers {
			b = append(b, leb.Put(n)...)
		}
	}
	say(opType, pointer)
	segment, place := -1, uint64(0)
	for len(set) > 0 {
		at := set[0].At
		if next := image.At(m, at); next != segment {
			segment = next
			say(opPlace, segment, at-m.Segments[segment].Addr)
		} else {
			say(opFurther, 0, at-place)
		}
		n := run(m, set)
		if n <= immBits {
			say(opFew, n)
		} else {
			say(opMany, 0, uint64(n))
		}
		place = set[n-1].At + wordSize
		set = set[n:]
	}
	say(opEnd, 0)
	return b
}

// run is how many of a set, from the first one on, stand 8 apart, all of them in one segment.
func run(m api.Image, set []api.Fixup) int {
	segment := image.At(m, set[0].At)
	n := 1
	for n < len(set) && set[n].At-set[n-1].At == wordSize && image.At(m, set[n].At) == segment {
		n++
	}
	return n
}
