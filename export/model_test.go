package export_test

import (
	"bytes"
	"fmt"
	"math/big"
	"reflect"
	"slices"
	"sort"
	"testing"

	"clevis/api"
	"clevis/export"
	"clevis/nlist"
	"clevis/trie"
)

// What the chapter says of an image's exports, once more, so that the calls can be held against it whatever the image is.

// round is a number modulo 2^64.
func round(n *big.Int) uint64 {
	var m big.Int
	return m.And(n, new(big.Int).SetUint64(1<<64-1)).Uint64()
}

func number(n uint64) *big.Int { return new(big.Int).SetUint64(n) }

// reach is an image's low, how long it is, and whether a segment of it goes round at 2^64.
func reach(m api.Image) (low, long uint64, goesRound bool) {
	first := true
	var high uint64
	for _, s := range m.Segments {
		if s.Prot == 0 && s.FileSize == 0 {
			continue
		}
		if first {
			low, first = s.Addr, false
		}
		end := new(big.Int).Add(number(s.Addr), number(s.Size))
		goesRound = goesRound || end.BitLen() > 64
		high = max(high, round(end))
	}
	return low, round(new(big.Int).Sub(number(high), number(low))), goesRound
}

// part is a span's bytes.
func part(slice []byte, s api.Span) []byte {
	end := new(big.Int).Add(number(s.Off), number(s.Size))
	if end.Cmp(big.NewInt(int64(len(slice)))) > 0 {
		return nil
	}
	return slice[s.Off : s.Off+s.Size]
}

// told is an export that the trie, or the table, tells, and the error of one that may not be the image's.
type told struct {
	x   api.Export
	err api.Errno
}

// ofExport is what is told of an export of the trie.
func ofExport(m api.Image, x api.Export) told {
	_, long, _ := reach(m)
	switch {
	case x.Kind == api.ExpRegular && x.Value >= long:
		return told{x, api.ErrRange}
	case x.Kind == api.ExpStub && (x.Value >= long || x.Resolver >= long):
		return told{x, api.ErrRange}
	case x.Kind == api.ExpReexport && (x.Ordinal == 0 || x.Ordinal > uint64(len(m.Deps))):
		return told{x, api.ErrOrdinal}
	}
	return told{x, api.OK}
}

// ofSymbol is what is told of a symbol of the table.
func ofSymbol(m api.Image, x api.Symbol) told {
	if x.Section == 0 {
		return told{api.Export{Name: x.Name, Kind: api.ExpAbsolute, Value: x.Value, Weak: x.Weak}, api.OK}
	}
	low, _, goesRound := reach(m)
	if x.Value < low && !goesRound {
		return told{api.Export{Name: x.Name}, api.ErrRange}
	}
	return ofExport(m, api.Export{Name: x.Name, Kind: api.ExpRegular, Weak: x.Weak, Value: round(new(big.Int).Sub(number(x.Value), number(low)))})
}

// symbolsOf are the symbols of an image's table, by rising names.
func symbolsOf(slice []byte, m api.Image) ([]api.Symbol, api.Errno) {
	sections := 0
	for _, s := range m.Segments {
		for range s.Sections {
			sections++
		}
	}
	l, err := nlist.All(part(slice, m.Symbols), part(slice, m.Strings), sections)
	sort.Slice(l, func(i, k int) bool { return l[i].Name < l[k].Name })
	return l, err
}

func wantAll(slice []byte, m api.Image) ([]api.Export, api.Errno) {
	var l []told
	switch {
	case m.Trie.Size > 0:
		exports, err := trie.All(part(slice, m.Trie))
		if err != api.OK {
			return nil, err
		}
		for _, x := range exports {
			l = append(l, ofExport(m, x))
		}
	case m.Symbols.Size > 0:
		symbols, err := symbolsOf(slice, m)
		if err != api.OK {
			return nil, err
		}
		for _, x := range symbols {
			l = append(l, ofSymbol(m, x))
		}
	}
	var all []api.Export
	for _, x := range l {
		if x.err != api.OK {
			return nil, x.err
		}
		all = append(all, x.x)
	}
	return all, api.OK
}

func wantFind(slice []byte, m api.Image, name string) (api.Export, bool, api.Errno) {
	var one told
	switch {
	case m.Trie.Size > 0:
		x, is, err := trie.Find(part(slice, m.Trie), name)
		if err != api.OK || !is {
			return api.Export{}, false, err
		}
		one = ofExport(m, x)
	case m.Symbols.Size > 0:
		l, err := symbolsOf(slice, m)
		i := slices.IndexFunc(l, func(x api.Symbol) bool { return x.Name == name })
		if err != api.OK || i < 0 {
			return api.Export{}, false, err
		}
		one = ofSymbol(m, l[i])
	default:
		return api.Export{}, false, api.OK
	}
	if one.err != api.OK {
		return api.Export{}, false, one.err
	}
	return one.x, true, api.OK
}

func wantAt(m api.Image, x api.Export, slide uint64) uint64 {
	low, _, _ := reach(m)
	switch x.Kind {
	case api.ExpRegular, api.ExpStub:
		sum := new(big.Int).Add(number(low), number(slide))
		return round(sum.Add(sum, number(x.Value)))
	case api.ExpAbsolute:
		return x.Value
	}
	return 0
}

// like is an image in memory of its own.
func like(m api.Image) api.Image {
	m.Segments = slices.Clone(m.Segments)
	for i := range m.Segments {
		m.Segments[i].Sections = slices.Clone(m.Segments[i].Sections)
	}
	m.Deps = slices.Clone(m.Deps)
	return m
}

// briefly tells exports, if there are not too many.
func briefly(l []api.Export) string {
	if len(l) > 20 {
		return fmt.Sprintf("%d exports", len(l))
	}
	return fmt.Sprintf("%+v", l)
}

// about tells an image and its slice.
func about(slice []byte, m api.Image) string {
	if len(slice) > 400 {
		slice = slice[max(0, len(slice)-400):]
	}
	return fmt.Sprintf("%+v, .. [% x]", m, slice)
}

// checkAll holds All, which leaves all as it is, against what is wanted.
func checkAll(t *testing.T, slice []byte, m api.Image) ([]api.Export, api.Errno) {
	t.Helper()
	before, beforeImage := bytes.Clone(slice), like(m)
	want, wantErr := wantAll(slice, m)
	got, err := export.All(slice, m)
	if !slices.Equal(got, want) || err != wantErr {
		t.Fatalf("All of %s: %s (%v), want %s (%v)", about(slice, m), briefly(got), err, briefly(want), wantErr)
	}
	if err != api.OK && got != nil {
		t.Fatalf("All of %s: a list beside %v", about(slice, m), err)
	}
	if !bytes.Equal(slice, before) || !reflect.DeepEqual(m, beforeImage) {
		t.Fatalf("All changed what was handed in: %s", about(before, beforeImage))
	}
	return got, err
}

// checkFind holds Find, which leaves all as it is, against what is wanted.
func checkFind(t *testing.T, slice []byte, m api.Image, name string) (api.Export, bool, api.Errno) {
	t.Helper()
	before, beforeImage := bytes.Clone(slice), like(m)
	want, wantIs, wantErr := wantFind(slice, m, name)
	got, is, err := export.Find(slice, m, name)
	if got != want || is != wantIs || err != wantErr {
		t.Fatalf("Find of %q in %s: %+v, %v (%v), want %+v, %v (%v)", name, about(slice, m), got, is, err, want, wantIs, wantErr)
	}
	if !bytes.Equal(slice, before) || !reflect.DeepEqual(m, beforeImage) {
		t.Fatalf("Find changed what was handed in: %s", about(before, beforeImage))
	}
	return got, is, err
}

// checkAt holds At against what is wanted.
func checkAt(t *testing.T, m api.Image, x api.Export, slide uint64) {
	t.Helper()
	before := like(m)
	if got, want := export.At(m, x, slide), wantAt(m, x, slide); got != want {
		t.Fatalf("At of %+v, %+v, slide %x: %x, want %x", m, x, slide, got, want)
	}
	if !reflect.DeepEqual(m, before) {
		t.Fatalf("At changed what was handed in: %+v", before)
	}
}

// check holds All, Find of each name that is told there or nearly so, and of others, and At against what is wanted.
func check(t *testing.T, slice []byte, m api.Image, others ...string) ([]api.Export, api.Errno) {
	t.Helper()
	l, err := checkAll(t, slice, m)
	for _, x := range l[:min(len(l), 10)] {
		others = append(others, x.Name, x.Name+"a", x.Name[min(1, len(x.Name)):])
		for _, slide := range []uint64{0, 1 << 20, 1<<64 - 0x4000} {
			checkAt(t, m, x, slide)
		}
	}
	for _, name := range append(others, "", "a", "zz") {
		checkFind(t, slice, m, name)
	}
	follow(t, slice, m)
	return l, err
}
