package image

import (
	"slices"

	"clevis/api"
	"clevis/cursor"
)

const (
	maxProt    = api.ProtRead | api.ProtWrite | api.ProtExec
	symbolSize = 16
)

// asked is what is asked about: an image, of a slice of so many bytes, and a header and commands of so many.
type asked struct {
	image api.Image
	slice uint64
	head  uint64
}

// demand is a row of what must be so, and the error of what is not.
type demand struct {
	err   api.Errno
	rules []func(asked) bool
}

// demands are all that must be so, in the order in which it is asked: a rule may lean on those ahead of it.
func demands() []demand {
	return []demand{
		{api.ErrSegment, []func(asked) bool{protsMay, sizesMay, namesDiffer, rise, frontMay}},
		{api.ErrSection, []func(asked) bool{sectionsMay}},
		{api.ErrRange, []func(asked) bool{spansMay, entryMay}},
		{api.ErrName, []func(asked) bool{nameMay}},
	}
}

// May an image be, of a slice of so many bytes, and a header and commands of so many?
func May(m api.Image, slice, head uint64) api.Errno {
	a := asked{image: m, slice: slice, head: head}
	err := api.OK
asking:
	for _, d := range demands() {
		for _, rule := range d.rules {
			if !rule(a) {
				err = d.err
				break asking
			}
		}
	}
	return err
}

func protsMay(a asked) bool {
	return all(a.image.Segments, func(s api.Segment) bool {
		return s.Prot > 0 && s.Prot <= maxProt || s.Prot == 0 && s.FileSize == 0
	})
}

func sizesMay(a asked) bool {
	return all(a.image.Segments, func(s api.Segment) bool {
		return s.Addr%api.PageSize == 0 && s.Size%api.PageSize == 0 && s.Size > 0 &&
			s.FileSize <= s.Size && cursor.Within(s.Off, s.FileSize, a.slice) && cursor.Within(s.Addr, s.Size, api.MaxAddress)
	})
}

func namesDiffer(a asked) bool {
	met := map[string]struct{}{}
	for _, s := range a.image.Segments {
		met[s.Name] = struct{}{}
	}
	return len(met) == len(a.image.Segments)
}

// rise: is each segment behind the one ahead of it? That these end below 2^64 was asked before.
func rise(a asked) bool {
	var end uint64
	for _, s := range a.image.Segments {
		if s.Addr < end {
			return false
		}
		end = s.Addr + s.Size
	}
	return true
}

// frontMay: may the header and commands stand in the front segment? Where there is none, a zero one is told, which may not be read.
func frontMay(a asked) bool {
	s := front(a.image)
	return s.Off == 0 && s.FileSize >= a.head && s.Prot&api.ProtRead != 0 && !canWrite(s)
}

func sectionsMay(a asked) bool {
	return all(a.image.Segments, func(s api.Segment) bool {
		return all(s.Sections, func(x api.Section) bool { return sectionMay(s, x) })
	})
}

// sectionMay: may a section be one of this segment?
func sectionMay(s api.Segment, x api.Section) bool {
	if x.Addr < s.Addr {
		return false
	}
	from := x.Addr - s.Addr
	if x.Kind == api.KindZero {
		return cursor.Within(from, x.Size, s.Size)
	}
	// What ends within FileSize ends within Size, and within the slice: the sum below is not beyond 2^64.
	return cursor.Within(from, x.Size, s.FileSize) && x.Off == s.Off+from
}

func spansMay(a asked) bool {
	m := a.image
	l := []api.Span{m.Rebase, m.Bind, m.Weak, m.Lazy, m.Trie, m.Chains, m.Symbols, m.Strings}
	return m.Symbols.Size%symbolSize == 0 && all(l, func(s api.Span) bool { return cursor.Within(s.Off, s.Size, a.slice) })
}

func entryMay(a asked) bool {
	return !a.image.HasEntry || a.image.Entry < High(a.image)-Low(a.image)
}

// nameMay: has a Dylib a name, and nothing else one?
func nameMay(a asked) bool {
	return (a.image.Kind == api.Dylib) == (a.image.Name != "")
}

// all: is it so of each of a list?
func all[T any](l []T, is func(T) bool) bool {
	return !slices.ContainsFunc(l, func(x T) bool { return !is(x) })
}
