package image_test

import (
	"bytes"
	"reflect"
	"slices"
	"testing"

	"clevis/api"
	"clevis/command"
	"clevis/image"
	"clevis/load"
)

// What the chapter says of images, once more, so that the calls can be held against it whatever images there are.

// atMost: is the sum of l, as a number without bound, at most that?
func atMost(most uint64, l ...uint64) bool {
	for _, n := range l {
		if n > most {
			return false
		}
		most -= n
	}
	return true
}

func hole(s api.Segment) bool { return s.Prot == 0 && s.FileSize == 0 }

func wantSegments(m api.Image, slice, head uint64) bool {
	first := slices.IndexFunc(m.Segments, func(s api.Segment) bool { return !hole(s) })
	if first < 0 {
		return false
	}
	for i, s := range m.Segments {
		if s.Prot < 0 || s.Prot > 7 || s.Prot == 0 && s.FileSize != 0 {
			return false
		}
		if s.Addr%4096 != 0 || s.Size%4096 != 0 || s.Size == 0 || s.FileSize > s.Size {
			return false
		}
		if !atMost(slice, s.Off, s.FileSize) || !atMost(1<<47, s.Addr, s.Size) {
			return false
		}
		for _, ahead := range m.Segments[:i] {
			if ahead.Name == s.Name {
				return false
			}
		}
		if i > 0 && !atMost(s.Addr, m.Segments[i-1].Addr, m.Segments[i-1].Size) {
			return false
		}
	}
	s := m.Segments[first]
	return s.Off == 0 && s.FileSize >= head && (s.Prot == 1 || s.Prot == 5)
}

func wantSection(s api.Segment, x api.Section) bool {
	if x.Addr < s.Addr || !atMost(s.Addr+s.Size, x.Addr, x.Size) {
		return false
	}
	return x.Kind == 1 || x.Off >= s.Off && x.Off-s.Off == x.Addr-s.Addr && atMost(s.Addr+s.FileSize, x.Addr, x.Size)
}

func wantMay(m api.Image, slice, head uint64) api.Errno {
	if !wantSegments(m, slice, head) {
		return api.ErrSegment
	}
	for _, s := range m.Segments {
		for _, x := range s.Sections {
			if !wantSection(s, x) {
				return api.ErrSection
			}
		}
	}
	for _, s := range []api.Span{m.Rebase, m.Bind, m.Weak, m.Lazy, m.Trie, m.Chains, m.Symbols, m.Strings} {
		if !atMost(slice, s.Off, s.Size) {
			return api.ErrRange
		}
	}
	if m.Symbols.Size&15 != 0 || m.HasEntry && m.Entry >= wantHigh(m)-wantLow(m) {
		return api.ErrRange
	}
	if m.Kind == api.Dylib && m.Name == "" || m.Kind != api.Dylib && m.Name != "" {
		return api.ErrName
	}
	return api.OK
}

func wantLow(m api.Image) uint64 {
	for _, s := range m.Segments {
		if !hole(s) {
			return s.Addr
		}
	}
	return 0
}

func wantHigh(m api.Image) uint64 {
	var l []uint64
	for _, s := range m.Segments {
		if !hole(s) {
			l = append(l, s.Addr+s.Size)
		}
	}
	if len(l) == 0 {
		return 0
	}
	return slices.Max(l)
}

// stands: are so many bytes, one at least, from addr on in a segment that ends at 2^64 at the latest?
func stands(s api.Segment, addr, size uint64) bool {
	return size >= 1 && addr >= s.Addr && addr-s.Addr < s.Size && size <= s.Size-(addr-s.Addr) && atMost(1<<64-1, addr, size-1)
}

func wantAt(m api.Image, addr uint64) int {
	for i, s := range m.Segments {
		if !hole(s) && stands(s, addr, 1) {
			return i
		}
	}
	return -1
}

func wantPlace(m api.Image, segment, offset uint64) (uint64, api.Errno) {
	for i, s := range m.Segments {
		if uint64(i) == segment && !hole(s) {
			if offset < s.Size {
				return s.Addr + offset, api.OK
			}
			return 0, api.ErrRange
		}
	}
	return 0, api.ErrSegment
}

func wantWord(slice []byte, m api.Image, addr uint64) (uint64, api.Errno) {
	i := wantAt(m, addr)
	if i < 0 || !stands(m.Segments[i], addr, 8) {
		return 0, api.ErrRange
	}
	s := m.Segments[i]
	var n uint64
	for k := range uint64(8) {
		if at := addr - s.Addr + k; at < s.FileSize && atMost(uint64(len(slice)), s.Off, s.FileSize) {
			n |= uint64(slice[s.Off+at]) << (8 * k)
		}
	}
	return n, api.OK
}

func wantWritable(m api.Image, addr, size uint64) bool {
	i := wantAt(m, addr)
	return i >= 0 && stands(m.Segments[i], addr, size) && slices.Contains([]int{2, 3, 6, 7}, m.Segments[i].Prot)
}

func wantPart(slice []byte, s api.Span) []byte {
	if !atMost(uint64(len(slice)), s.Off, s.Size) {
		return nil
	}
	return bytes.Clone(slice[s.Off : s.Off+s.Size])
}

func wantOf(slice []byte) (api.Image, api.Errno) {
	m, err := load.Image(slice)
	if err == api.OK {
		head, _ := command.Size(slice)
		err = wantMay(m, uint64(len(slice)), head)
	}
	if err != api.OK {
		return api.Image{}, err
	}
	return m, api.OK
}

// checkMay holds May of any image against what is wanted.
func checkMay(t *testing.T, m api.Image, slice, head uint64) {
	t.Helper()
	if err, want := image.May(m, slice, head), wantMay(m, slice, head); err != want {
		t.Fatalf("May of %+v (of %d bytes, %d of them the head): %v, want %v", m, slice, head, err, want)
	}
}

// checkOf holds Of of any bytes, which are to stay as they are, against what is wanted.
func checkOf(t *testing.T, b []byte) {
	t.Helper()
	before := bytes.Clone(b)
	want, wantErr := wantOf(before)
	if m, err := image.Of(b); !reflect.DeepEqual(m, want) || err != wantErr {
		t.Fatalf("Of: %+v (%v), want %+v (%v)", m, err, want, wantErr)
	}
	if !bytes.Equal(b, before) {
		t.Fatal("what was handed in was changed")
	}
}

// edges are addresses at which something of an image begins or ends, those beside them, and the least and greatest ones.
func edges(m api.Image) []uint64 {
	l := []uint64{0}
	for _, s := range m.Segments {
		l = append(l, s.Addr, s.Addr+s.FileSize, s.Addr+s.Size)
	}
	var near []uint64
	for _, addr := range l {
		for d := range uint64(10) {
			near = append(near, addr+d, addr-d)
		}
	}
	slices.Sort(near)
	return slices.Compact(near)
}

// checkPlaces holds Low, High and Place of any image against what is wanted.
func checkPlaces(t *testing.T, m api.Image) {
	t.Helper()
	if low, high := image.Low(m), image.High(m); low != wantLow(m) || high != wantHigh(m) {
		t.Fatalf("Low, High of %+v: %x, %x, want %x, %x", m, low, high, wantLow(m), wantHigh(m))
	}
	for i := range uint64(len(m.Segments) + 2) {
		for _, offset := range edges(m) {
			want, wantErr := wantPlace(m, i, offset)
			if addr, err := image.Place(m, i, offset); addr != want || err != wantErr {
				t.Fatalf("Place of %d, %x of %+v: %x (%v), want %x (%v)", i, offset, m, addr, err, want, wantErr)
			}
		}
	}
}

// checkAddresses holds At, Word and Writable of any image, at its edges, against what is wanted.
func checkAddresses(t *testing.T, slice []byte, m api.Image) {
	t.Helper()
	before := bytes.Clone(slice)
	for _, addr := range edges(m) {
		if i := image.At(m, addr); i != wantAt(m, addr) {
			t.Fatalf("At of %x of %+v: %d, want %d", addr, m, i, wantAt(m, addr))
		}
		want, wantErr := wantWord(before, m, addr)
		if n, err := image.Word(slice, m, addr); n != want || err != wantErr {
			t.Fatalf("Word at %x of %+v: %x (%v), want %x (%v)", addr, m, n, err, want, wantErr)
		}
		for _, size := range []uint64{0, 1, 2, 8, 9, 0x1000, 0x1001, 1 << 63, 1<<64 - 8, 1<<64 - 1} {
			if is := image.Writable(m, addr, size); is != wantWritable(m, addr, size) {
				t.Fatalf("Writable of %d bytes at %x of %+v: %v", size, addr, m, is)
			}
		}
	}
	if !bytes.Equal(slice, before) {
		t.Fatal("what was handed in was changed")
	}
}
