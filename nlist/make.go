package nlist

import (
	"slices"
	"strings"

	"clevis/api"
)

// maxSection is the greatest number of a section that has room in an entry.
const maxSection = 255

// May a symbol be?
func May(x api.Symbol) bool {
	return x.Name != "" && len(x.Name) <= api.MaxName && strings.IndexByte(x.Name, 0) < 0 && x.Section >= 0 && x.Section <= maxSection
}

// Make is the table of symbols, and its strings.
func Make(l ...api.Symbol) ([]byte, []byte, api.Errno) {
	if slices.ContainsFunc(l, func(x api.Symbol) bool { return !May(x) }) {
		return nil, nil, api.ErrArg
	}
	if len(l) > api.MaxNames {
		return nil, nil, api.ErrMany
	}
	table, names := lay(l)
	if max(len(table), len(names)) > api.MaxFile {
		return nil, nil, api.ErrMany
	}
	if twice(l) {
		return nil, nil, api.ErrTwice
	}
	return table, names, api.OK
}

// lay lays symbols' entries, and their names.
func lay(l []api.Symbol) ([]byte, []byte) {
	var table []byte
	names := []byte{0}
	for _, x := range l {
		table = put(table, x, uint64(len(names)))
		names = append(names, x.Name...)
		names = append(names, 0)
	}
	return table, names
}

// put lays the entry of a symbol, whose name stands at a place, behind b.
func put(b []byte, x api.Symbol, place uint64) []byte {
	bits, description := uint64(external|ofSection), uint64(0)
	if x.Section == 0 {
		bits = external | absolute
	}
	if x.Weak {
		description = weak
	}
	b = number(b, 4, place)
	b = number(b, 1, bits)
	b = number(b, 1, uint64(x.Section))
	b = number(b, 2, description)
	return number(b, 8, x.Value)
}

// number lays a number of so many bytes behind b, the lowest first.
func number(b []byte, size int, n uint64) []byte {
	for i := range size {
		b = append(b, byte(n>>(8*i)))
	}
	return b
}

// twice: are two symbols of one name?
func twice(l []api.Symbol) bool {
	met := map[string]struct{}{}
	for _, x := range l {
		met[x.Name] = struct{}{}
	}
	return len(met) < len(l)
}
