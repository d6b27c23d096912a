package export

import (
	"slices"
	"strings"

	"clevis/api"
	"clevis/image"
	"clevis/nlist"
	"clevis/trie"
)

// source is where exports come from. Whether they may be the image's is not asked of it.
type source interface {
	// all are all of them, by rising names.
	all() ([]api.Export, api.Errno)
	// find is the one of a name; is there one?
	find(name string) (api.Export, bool, api.Errno)
}

// sourceOf is where an image's exports come from.
func sourceOf(slice []byte, m api.Image) source {
	switch {
	case m.Trie.Size > 0:
		return names(image.Part(slice, m.Trie))
	case m.Symbols.Size > 0:
		return table{
			entries:  image.Part(slice, m.Symbols),
			strings:  image.Part(slice, m.Strings),
			sections: sectionsOf(m),
			low:      image.Low(m),
		}
	}
	return nothing{}
}

// sectionsOf is how many sections all segments of an image have together.
func sectionsOf(m api.Image) int {
	n := 0
	for _, s := range m.Segments {
		n += len(s.Sections)
	}
	return n
}

// names are a trie's bytes.
type names []byte

func (b names) all() ([]api.Export, api.Errno) {
	return trie.All(b)
}

func (b names) find(name string) (api.Export, bool, api.Errno) {
	return trie.Find(b, name)
}

// table is a table of an image that has so many sections, and begins at low.
type table struct {
	entries  []byte
	strings  []byte
	sections int
	low      uint64
}

func (t table) all() ([]api.Export, api.Errno) {
	l, err := nlist.All(t.entries, t.strings, t.sections)
	if err != api.OK {
		return nil, err
	}
	var exports []api.Export
	for _, x := range l {
		exports = append(exports, t.export(x))
	}
	slices.SortFunc(exports, byName)
	return exports, api.OK
}

func (t table) find(name string) (api.Export, bool, api.Errno) {
	x, is, err := nlist.Find(t.entries, t.strings, t.sections, name)
	if err != api.OK || !is {
		return api.Export{}, false, err
	}
	return t.export(x), true, api.OK
}

// export is what a symbol of the table is as an export. An address below low goes round at 2^64: that is farther than the image is long, but where its segments go round, too.
func (t table) export(x api.Symbol) api.Export {
	if x.Section == 0 {
		return api.Export{Name: x.Name, Kind: api.ExpAbsolute, Weak: x.Weak, Value: x.Value}
	}
	return api.Export{Name: x.Name, Kind: api.ExpRegular, Weak: x.Weak, Value: x.Value - t.low}
}

// nothing has no exports.
type nothing struct{}

func (nothing) all() ([]api.Export, api.Errno) {
	return nil, api.OK
}

func (nothing) find(string) (api.Export, bool, api.Errno) {
	return api.Export{}, false, api.OK
}

func byName(a, b api.Export) int {
	return strings.Compare(a.Name, b.Name)
}
