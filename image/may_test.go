package image_test

import (
	"math"
	"reflect"
	"slices"
	"strconv"
	"testing"

	"clevis/api"
	"clevis/image"
)

// P6.1 (May, Of)

// one is fine, but for a segment.
func one(i int, change func(*api.Segment)) api.Image {
	return changed(func(m *api.Image) { change(&m.Segments[i]) })
}

// part is fine, but for a section.
func part(i, k int, change func(*api.Section)) api.Image {
	return changed(func(m *api.Image) { change(&m.Segments[i].Sections[k]) })
}

// may asks that May answers that of an image of fine's slice.
func may(t *testing.T, what string, m api.Image, want api.Errno) {
	t.Helper()
	if err := image.May(m, fineSlice, fineHead); err != want {
		t.Errorf("%s: %v, want %v", what, err, want)
	}
	checkMay(t, m, fineSlice, fineHead)
}

func TestImagesThatMayBe(t *testing.T) {
	may(t, "fine", fine(), api.OK)
	if err := image.May(lib(), 5000, 4096); err != api.OK {
		t.Error(err)
	}
	for _, prot := range []int{1, 5} {
		may(t, "a first one that may be read", one(text, func(s *api.Segment) { s.Prot = prot }), api.OK)
	}
	for prot := 1; prot <= 7; prot++ {
		may(t, "another one, of any protection", one(data, func(s *api.Segment) { s.Prot = prot }), api.OK)
	}
	may(t, "a hole that begins where the slice ends", one(gap, func(s *api.Segment) { s.Off = fineSlice }), api.OK)
	may(t, "a FileSize of all of Size", one(text, func(s *api.Segment) { s.Size, s.FileSize, s.Sections = 0x1000, 0x1000, nil }), api.OK)
	may(t, "one that ends at MaxAddress", one(link, func(s *api.Segment) { s.Addr = api.MaxAddress - s.Size }), api.OK)
	may(t, "a name of no bytes, once", one(data, func(s *api.Segment) { s.Name = "" }), api.OK)
	may(t, "one that begins where the one ahead ends", one(link, func(s *api.Segment) { s.Addr = 0x18000 }), api.OK)
	may(t, "the last ones holes", one(link, func(s *api.Segment) { s.Prot, s.FileSize = 0, 0 }), api.OK)
	may(t, "no sections", changed(func(m *api.Image) { m.Segments[text].Sections, m.Segments[data].Sections = nil, nil }), api.OK)
	may(t, "no entry, whatever Entry is", changed(func(m *api.Image) { m.Entry, m.HasEntry = math.MaxUint64, false }), api.OK)
	may(t, "an entry just below high", changed(func(m *api.Image) { m.Entry = fineHigh - fineLow - 1 }), api.OK)
	may(t, "an entry of 0", changed(func(m *api.Image) { m.Entry = 0 }), api.OK)
	may(t, "a Dylib of a name", changed(func(m *api.Image) { m.Kind, m.Name = api.Dylib, "x" }), api.OK)
}

func TestTheExamples(t *testing.T) {
	m := laid(api.Segment{Name: "a", Size: 4096, FileSize: 4096, Prot: 5}, api.Segment{Name: "b", Addr: 4096, Size: 8192, Prot: 3})
	if err := image.May(m, 4096, 4096); err != api.OK {
		t.Error(err)
	}
	m.Segments[1].Name = "a"
	if err := image.May(m, 4096, 4096); err != api.ErrSegment {
		t.Error(err)
	}
}

func TestSegmentsThatMayNotBe(t *testing.T) {
	for _, m := range []api.Image{laid(), laid(api.Segment{Size: 4096}), laid(api.Segment{Name: "a", Size: 4096}, api.Segment{Name: "b", Addr: 4096, Size: 4096})} {
		may(t, "no segment that is no hole", m, api.ErrSegment)
	}
	for _, prot := range []int{8, 9, 13, -1, -3, math.MaxInt, math.MinInt} {
		may(t, "a protection that is none", one(data, func(s *api.Segment) { s.Prot = prot }), api.ErrSegment)
		may(t, "the first one's", one(text, func(s *api.Segment) { s.Prot = prot }), api.ErrSegment)
		may(t, "one of no bytes in the file", one(bss, func(s *api.Segment) { s.Prot = prot }), api.ErrSegment)
	}
	for _, i := range []int{text, data, link} {
		may(t, "Prot 0, but bytes in the file", one(i, func(s *api.Segment) { s.Prot = 0 }), api.ErrSegment)
	}
	for _, i := range []int{zero, text, gap, data, bss, link} {
		may(t, "an Addr that is no multiple", one(i, func(s *api.Segment) { s.Addr += 8; s.Size = 0x1000; s.Sections = nil }), api.ErrSegment)
		may(t, "a Size that is no multiple", one(i, func(s *api.Segment) { s.Size-- }), api.ErrSegment)
		may(t, "a Size of 0", one(i, func(s *api.Segment) { s.Size, s.FileSize, s.Sections = 0, 0, nil }), api.ErrSegment)
		may(t, "an Off behind the slice", one(i, func(s *api.Segment) { s.Off = fineSlice + 1 }), api.ErrSegment)
		may(t, "an Addr that goes round", one(i, func(s *api.Segment) { s.Addr = -s.Size }), api.ErrSegment)
		may(t, "a Size that goes round", one(i, func(s *api.Segment) { s.Size = 1<<64 - 0x1000 }), api.ErrSegment)
	}
	for _, i := range []int{data, link} {
		may(t, "an Off that goes round", one(i, func(s *api.Segment) { s.Off, s.Sections = -s.FileSize, nil }), api.ErrSegment)
	}
	may(t, "a FileSize above Size", one(link, func(s *api.Segment) { s.Off, s.FileSize = 0, 0x1001 }), api.ErrSegment)
	may(t, "a last byte behind the slice", one(link, func(s *api.Segment) { s.FileSize++ }), api.ErrSegment)
	may(t, "one that ends behind MaxAddress", one(link, func(s *api.Segment) { s.Addr = api.MaxAddress - s.Size + 0x1000 }), api.ErrSegment)
	may(t, "a hole that ends behind MaxAddress", one(link, func(s *api.Segment) { s.Addr, s.Prot, s.FileSize = api.MaxAddress, 0, 0 }), api.ErrSegment)
}

func TestSegmentsBesideOneAnother(t *testing.T) {
	for i := range fine().Segments {
		for k := range i {
			may(t, "a name twice", one(i, func(s *api.Segment) { s.Name = fine().Segments[k].Name }), api.ErrSegment)
		}
	}
	for i := 1; i < len(fine().Segments); i++ {
		may(t, "one that begins in the one ahead", one(i-1, func(s *api.Segment) { s.Size = fine().Segments[i].Addr - s.Addr + 0x1000 }), api.ErrSegment)
	}
	may(t, "two that don't rise", changed(func(m *api.Image) { l := m.Segments; l[bss], l[link] = l[link], l[bss] }), api.ErrSegment)
	may(t, "holes that don't rise", changed(func(m *api.Image) { l := m.Segments; l[zero], l[gap] = l[gap], l[zero] }), api.ErrSegment)
	may(t, "all at one place", changed(func(m *api.Image) { m.Segments[bss].Addr = m.Segments[data].Addr }), api.ErrSegment)
}

func TestTheFirstSegment(t *testing.T) {
	may(t, "an Off above 0", one(text, func(s *api.Segment) { s.Off, s.Sections = 1, nil }), api.ErrSegment)
	may(t, "one that may be written", one(text, func(s *api.Segment) { s.Prot = 3 }), api.ErrSegment)
	for _, prot := range []int{2, 4, 6, 7} {
		may(t, "one that may be written, or not read", one(text, func(s *api.Segment) { s.Prot = prot }), api.ErrSegment)
	}
	// The second one is not asked for that, though the first one is a hole; nor is the hole.
	may(t, "no bytes at all, of another one", one(data, func(s *api.Segment) { s.FileSize, s.Sections = 0, nil }), api.OK)
	for _, x := range []struct {
		head uint64
		want api.Errno
	}{{0, api.OK}, {0x17FF, api.OK}, {0x1800, api.OK}, {0x1801, api.ErrSegment}, {fineSlice, api.ErrSegment}, {math.MaxUint64, api.ErrSegment}} {
		if err := image.May(fine(), fineSlice, x.head); err != x.want {
			t.Errorf("a head of %#x bytes: %v, want %v", x.head, err, x.want)
		}
	}
	none := one(text, func(s *api.Segment) { s.FileSize, s.Sections = 0, nil })
	if err := image.May(none, fineSlice, 0); err != api.OK {
		t.Errorf("no bytes for a head of none: %v", err)
	}
	may(t, "no bytes for a head of some", none, api.ErrSegment)
}

func TestSectionsThatMayNotBe(t *testing.T) {
	type section = api.Section
	for _, x := range []struct {
		what   string
		change func(*section)
	}{
		{"ahead of its segment", func(s *section) { s.Addr, s.Off = fineLow-1, math.MaxUint64 }},
		{"ahead of its segment, of no bytes in the file", func(s *section) { s.Addr, s.Kind = fineLow-1, api.KindZero }},
		{"behind its segment", func(s *section) { s.Addr, s.Off = 0x12001, 0x2001; s.Size = 0 }},
		{"behind its segment, of no bytes in the file", func(s *section) { s.Addr, s.Size, s.Kind = 0x12001, 0, api.KindZero }},
		{"beyond its segment's end, of no bytes in the file", func(s *section) { s.Size, s.Kind = 0x1801, api.KindZero }},
		{"a Size that goes round", func(s *section) { s.Size = -s.Addr }},
		{"a Size that goes round, of no bytes in the file", func(s *section) { s.Size, s.Kind = 1<<64-0x10800, api.KindZero }},
		{"a Size that goes round far", func(s *section) { s.Size, s.Kind = math.MaxUint64, api.KindZero }},
		{"one byte beyond FileSize", func(s *section) { s.Size = 0x1001 }},
		{"no bytes, beyond FileSize", func(s *section) { s.Addr, s.Off, s.Size = 0x11801, 0x1801, 0 }},
		{"an Off too small", func(s *section) { s.Off-- }},
		{"an Off too great", func(s *section) { s.Off++ }},
		{"an Off of 0", func(s *section) { s.Off = 0 }},
		{"an Off of 2^64 more", func(s *section) { s.Off = math.MaxUint64 }},
		{"another kind with the Off of KindZero", func(s *section) { s.Off, s.Kind = 0x99, api.KindZero+256 }},
	} {
		may(t, x.what, part(text, 0, x.change), api.ErrSection)
	}
	may(t, "of another segment than the first", part(data, 0, func(s *section) { s.Off -= 0x1900 }), api.ErrSection)
	may(t, "not the first one of its segment", part(text, 2, func(s *section) { s.Size++ }), api.ErrSection)
	// A slice that is as great as can be lets an Off and what goes with it be beyond 2^64.
	great := laid(api.Segment{Name: "a", Size: 4096, FileSize: 4096, Prot: 5}, api.Segment{Name: "b", Addr: 4096, Size: 4096, Off: math.MaxUint64, Prot: 3, Sections: []section{{Segment: "b", Addr: 4097}}})
	if err := image.May(great, math.MaxUint64, 0); err != api.ErrSection {
		t.Errorf("an Off that goes round: %v", err)
	}
}

func TestSectionsThatMayBe(t *testing.T) {
	type section = api.Section
	for _, x := range []struct {
		what   string
		change func(*section)
	}{
		{"up to FileSize", func(s *section) { s.Size = 0x1000 }},
		{"all of FileSize", func(s *section) { s.Addr, s.Off, s.Size = fineLow, 0, 0x1800 }},
		{"no bytes at FileSize", func(s *section) { s.Addr, s.Off, s.Size = 0x11800, 0x1800, 0 }},
		{"any kind", func(s *section) { s.Kind = 255 }},
		{"up to the segment's end, not in the file, whatever Off is", func(s *section) { s.Size, s.Kind, s.Off = 0x1800, api.KindZero, math.MaxUint64 }},
		{"no bytes at the segment's end, not in the file", func(s *section) { s.Addr, s.Size, s.Kind = 0x12000, 0, api.KindZero }},
		{"another name, and another segment's", func(s *section) { s.Name, s.Segment = "", "other" }},
	} {
		may(t, x.what, part(text, 0, x.change), api.OK)
	}
	inHole := one(gap, func(s *api.Segment) {
		s.Sections = []section{{Addr: 0x12000, Off: 9}, {Addr: 0x12800, Size: 0x800, Kind: api.KindZero}}
	})
	may(t, "sections of a hole", inHole, api.OK)
}

// spans are all of an image's.
func spans(m *api.Image) []*api.Span {
	return []*api.Span{&m.Rebase, &m.Bind, &m.Weak, &m.Lazy, &m.Trie, &m.Chains, &m.Symbols, &m.Strings}
}

func TestSpans(t *testing.T) {
	for i := range spans(&api.Image{}) {
		for _, x := range []struct {
			off, size uint64
			want      api.Errno
		}{
			{0, 0, api.OK}, {0, 16, api.OK}, {fineSlice, 0, api.OK}, {fineSlice - 16, 16, api.OK}, {0, fineSlice, api.OK},
			{fineSlice + 1, 0, api.ErrRange}, {fineSlice - 15, 16, api.ErrRange}, {fineSlice, 16, api.ErrRange}, {math.MaxUint64, 0, api.ErrRange},
			{0, fineSlice + 16, api.ErrRange}, {1<<64 - 16, 16, api.ErrRange}, {16, 1<<64 - 16, api.ErrRange}, {1<<64 - 16, 32, api.ErrRange},
		} {
			may(t, "span "+strconv.Itoa(i), changed(func(m *api.Image) { *spans(m)[i] = api.Span{Off: x.off, Size: x.size} }), x.want)
		}
	}
	for size := range uint64(33) {
		want := api.OK
		if size%16 != 0 {
			want = api.ErrRange
		}
		may(t, "symbols in pieces", changed(func(m *api.Image) { m.Symbols.Size = size }), want)
	}
}

func TestEntries(t *testing.T) {
	for _, entry := range []uint64{fineHigh - fineLow, fineHigh - 1, fineHigh, math.MaxUint64, 1<<64 - fineLow} {
		may(t, "an entry that is not below high", changed(func(m *api.Image) { m.Entry = entry }), api.ErrRange)
	}
	// Without its last segment it ends where the one ahead does, though a hole stands behind it.
	short := func(m *api.Image) { m.Segments[link].Prot, m.Segments[link].FileSize = 0, 0 }
	may(t, "an entry below a lower high", changed(short, func(m *api.Image) { m.Entry = 0x7FFF }), api.OK)
	may(t, "an entry in a hole behind all else", changed(short, func(m *api.Image) { m.Entry = 0x8000 }), api.ErrRange)
	may(t, "an entry where no segment is", changed(func(m *api.Image) { m.Entry = 0x8000 }), api.OK)
}

func TestNames(t *testing.T) {
	may(t, "a Dylib without a name", changed(func(m *api.Image) { m.Kind = api.Dylib }), api.ErrName)
	for _, kind := range []api.ImageKind{api.Exec, 0, 1, 7, -6} {
		may(t, "a name of another kind", changed(func(m *api.Image) { m.Kind, m.Name = kind, "x" }), api.ErrName)
		may(t, "no name of another kind", changed(func(m *api.Image) { m.Kind = kind }), api.OK)
	}
}

func TestTheFirstErrorIsTold(t *testing.T) {
	wrong := []struct {
		err    api.Errno
		change func(*api.Image)
	}{
		{api.ErrSegment, func(m *api.Image) { m.Segments[link].Prot = 8 }},
		{api.ErrSection, func(m *api.Image) { m.Segments[text].Sections[0].Off++ }},
		{api.ErrRange, func(m *api.Image) { m.Rebase.Off = fineSlice + 1 }},
		{api.ErrRange, func(m *api.Image) { m.Entry = fineHigh }},
		{api.ErrName, func(m *api.Image) { m.Name = "x" }},
	}
	for i, x := range wrong {
		for _, y := range wrong[i:] {
			may(t, "two errors", changed(x.change, y.change), x.err)
			may(t, "two errors, the other way round", changed(y.change, x.change), x.err)
		}
	}
}

// changes are one thing that is changed each.
func changes() []func(*api.Image) {
	var l []func(*api.Image)
	add := func(change func(*api.Image)) { l = append(l, change) }
	for i := range fine().Segments {
		for _, n := range []uint64{0, 1, 0x1000, fineLow, 0x12000, fineSlice, api.MaxAddress, 1<<64 - 0x1000, math.MaxUint64} {
			add(func(m *api.Image) { m.Segments[i].Addr = n })
			add(func(m *api.Image) { m.Segments[i].Size = n })
			add(func(m *api.Image) { m.Segments[i].Off = n })
			add(func(m *api.Image) { m.Segments[i].FileSize = n })
		}
		for _, prot := range []int{-1, 0, 1, 3, 4, 8} {
			add(func(m *api.Image) { m.Segments[i].Prot = prot })
		}
		add(func(m *api.Image) { m.Segments[i].Name = "__TEXT" })
		for k := range fine().Segments[i].Sections {
			for _, n := range []uint64{0, 0x1800, 0x11800, 0x14100, math.MaxUint64} {
				add(func(m *api.Image) { m.Segments[i].Sections[k].Addr = n })
				add(func(m *api.Image) { m.Segments[i].Sections[k].Size = n })
				add(func(m *api.Image) { m.Segments[i].Sections[k].Off = n })
			}
			add(func(m *api.Image) { m.Segments[i].Sections[k].Kind ^= 1 })
		}
	}
	for i := range spans(&api.Image{}) {
		for _, n := range []uint64{1, fineSlice, math.MaxUint64} {
			add(func(m *api.Image) { spans(m)[i].Off = n })
			add(func(m *api.Image) { spans(m)[i].Size = n })
		}
	}
	add(func(m *api.Image) { m.Entry = fineHigh - fineLow })
	add(func(m *api.Image) { m.HasEntry = false })
	add(func(m *api.Image) { m.Name = "x" })
	add(func(m *api.Image) { m.Kind = api.Dylib })
	return l
}

func TestOneAndTwoChanges(t *testing.T) {
	l := changes()
	for i, x := range l {
		for _, slice := range []uint64{0, fineSlice - 1, fineSlice, 1 << 63, math.MaxUint64} {
			checkMay(t, changed(x), slice, fineHead)
		}
		for _, y := range l[:i] {
			checkMay(t, changed(x, y), fineSlice, fineHead)
			checkMay(t, changed(y, x), math.MaxUint64, 0)
		}
	}
}

func TestOf(t *testing.T) {
	for _, m := range []api.Image{fine(), changed(func(m *api.Image) { m.Kind, m.Name, m.Sub = api.Dylib, "/lib/x", 2 })} {
		for _, size := range []int{fineSlice, fineSlice + 1, api.MaxFile} {
			b := sliceOf(t, m, size)
			if got, err := image.Of(b); !reflect.DeepEqual(got, m) || err != api.OK {
				t.Errorf("%+v (%v), want %+v", got, err, m)
			}
			checkOf(t, b)
		}
	}
	for _, x := range []struct {
		want   api.Errno
		change func(*api.Image)
	}{
		{api.ErrSegment, func(m *api.Image) { m.Segments = nil }},
		{api.ErrSegment, func(m *api.Image) { m.Segments[data].Name = "__TEXT"; m.Segments[data].Sections = nil }},
		{api.ErrSegment, func(m *api.Image) { m.Segments[link].FileSize++ }},
		{api.ErrSection, func(m *api.Image) { m.Segments[text].Sections[0].Off++ }},
		{api.ErrRange, func(m *api.Image) { m.Strings.Size++ }},
		{api.ErrRange, func(m *api.Image) { m.Symbols = api.Span{Off: fineSlice + 1} }},
		{api.ErrRange, func(m *api.Image) { m.Entry = fineHigh - fineLow }},
		{api.ErrName, func(m *api.Image) { m.Name = "x" }},
		{api.ErrName, func(m *api.Image) { m.Kind = api.Dylib }},
	} {
		b := sliceOf(t, changed(x.change), fineSlice)
		if m, err := image.Of(b); !reflect.DeepEqual(m, api.Image{}) || err != x.want {
			t.Errorf("%+v (%v), want %v", m, err, x.want)
		}
		checkOf(t, b)
	}
}

// TestTheHeadHasRoom: Of asks for as many bytes as the header says that it and the commands have.
func TestTheHeadHasRoom(t *testing.T) {
	m := lib()
	m.Segments[0].FileSize = 32 + 2*72 + 32 + 48 + 16 + 24
	fits := sliceOf(t, m, 5000)
	if _, err := image.Of(fits); err != api.OK {
		t.Error(err)
	}
	checkOf(t, fits)
	m.Segments[0].FileSize--
	b := sliceOf(t, m, 5000)
	if got, err := image.Of(b); !reflect.DeepEqual(got, api.Image{}) || err != api.ErrSegment {
		t.Errorf("%+v (%v)", got, err)
	}
	checkOf(t, b)
	// Bytes that are left behind the last command are the commands', too.
	more := slices.Clone(fits)
	more[20]++
	if got, err := image.Of(more); !reflect.DeepEqual(got, api.Image{}) || err != api.ErrSegment {
		t.Errorf("%+v (%v)", got, err)
	}
	checkOf(t, more)
}

func TestErrorsOfLoadAreTold(t *testing.T) {
	b := sliceOf(t, fine(), fineSlice)
	for _, x := range []struct {
		what string
		at   int
		to   byte
		want api.Errno
	}{
		{"the magic", 0, 0, api.ErrMagic},
		{"the cputype", 4, 7, api.ErrArch},
		{"the subtype", 8, 1, api.ErrArch},
		{"the filetype", 12, 1, api.ErrCommand},
		{"how many commands", 17, 2, api.ErrMany},
		{"how many bytes", 22, 1, api.ErrShort},
		{"a command's bytes", 36, 71, api.ErrCommand},
		{"a section's segment", 32 + 72 + 72 + 16, 'x', api.ErrSection},
		{"a segment's protection", 32 + 60, 8, api.ErrSection},
	} {
		wrong := slices.Clone(b)
		wrong[x.at] = x.to
		if m, err := image.Of(wrong); !reflect.DeepEqual(m, api.Image{}) || err != x.want {
			t.Errorf("%s: %+v (%v), want %v", x.what, m, err, x.want)
		}
		checkOf(t, wrong)
	}
	if m, err := image.Of(nil); !reflect.DeepEqual(m, api.Image{}) || err != api.ErrShort {
		t.Errorf("no bytes: %+v (%v)", m, err)
	}
	// What load refuses is told ahead of what may not be.
	two := sliceOf(t, changed(func(m *api.Image) { m.Segments[text].Off = 1; m.Segments[text].Sections[0].Segment = "x" }), fineSlice)
	if _, err := image.Of(two); err != api.ErrSection {
		t.Errorf("two errors: %v", err)
	}
}
