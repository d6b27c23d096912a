package image_test

import (
	"bytes"
	"math"
	"reflect"
	"strconv"
	"testing"

	"clevis/api"
	"clevis/image"
)

// P0.3 (within bounds)

// whole is fine's slice, and how many bytes of it are the header and the commands.
func whole(t *testing.T) ([]byte, int) {
	t.Helper()
	b := sliceOf(t, fine(), fineSlice)
	return b, 32 + int(b[20]) + int(b[21])<<8
}

func TestSlicesThatAreCutShort(t *testing.T) {
	b, head := whole(t)
	for n := range head + 1 {
		checkOf(t, b[:n])
		checkOf(t, b[:n:n])
	}
	for n := head; n <= len(b); n += 13 {
		checkOf(t, b[:n])
	}
	checkOf(t, b[:len(b)-1])
	if _, err := image.Of(b[:len(b)-1]); err != api.ErrSegment {
		t.Error(err)
	}
}

func TestSlicesWithOneByteChanged(t *testing.T) {
	b, head := whole(t)
	for i := range head {
		for _, v := range []byte{0, 1, 2, 3, 4, 5, 7, 8, 0x10, 0x18, 0x40, 0x7F, 0x80, 0xFE, 0xFF, b[i] + 1, b[i] - 1} {
			wrong := bytes.Clone(b)
			wrong[i] = v
			checkOf(t, wrong)
		}
	}
}

func TestBytesBehindTheCommandsDoNotMatter(t *testing.T) {
	b, head := whole(t)
	for _, v := range []byte{0, 1, 0xFF} {
		other := bytes.Clone(b)
		copy(other[head:], bytes.Repeat([]byte{v}, len(b)-head))
		if m, err := image.Of(other); !reflect.DeepEqual(m, fine()) || err != api.OK {
			t.Errorf("%+v (%v)", m, err)
		}
	}
}

func TestAnImageIsNewMemory(t *testing.T) {
	b, _ := whole(t)
	m, _ := image.Of(b)
	clear(b)
	if !reflect.DeepEqual(m, fine()) {
		t.Error("the image changes with the slice")
	}
}

func TestWhatIsHandedInStays(t *testing.T) {
	m, b := fine(), numbered(fineSlice)
	image.May(m, fineSlice, fineHead)
	image.May(m, 0, 0)
	checkPlaces(t, m)
	checkAddresses(t, b, m)
	image.Part(b, m.Trie)
	if !reflect.DeepEqual(m, fine()) || !bytes.Equal(b, numbered(fineSlice)) {
		t.Error("what was handed in was changed")
	}
}

// TestManySegments: the limits on how many there are were asked by who read them; here there may be any number.
func TestManySegments(t *testing.T) {
	const n = 1 << 18
	m := laid()
	for i := range uint64(n) {
		m.Segments = append(m.Segments, api.Segment{Name: strconv.FormatUint(i, 10), Addr: i * 4096, Size: 4096, Prot: 1})
	}
	if err := image.May(m, 0, 0); err != api.OK {
		t.Error(err)
	}
	if low, high := image.Low(m), image.High(m); low != 0 || high != n*4096 {
		t.Errorf("%x, %x", low, high)
	}
	if i := image.At(m, n*4096-1); i != n-1 {
		t.Error(i)
	}
	m.Segments[n-1].Name = "0"
	if err := image.May(m, 0, 0); err != api.ErrSegment {
		t.Error(err)
	}
}

// TestExtremes: all numbers of an image are as great as can be, or as small.
func TestExtremes(t *testing.T) {
	ends := []uint64{0, 1, 1 << 63, math.MaxUint64}
	b := numbered(64)
	for _, addr := range ends {
		for _, size := range ends {
			for _, off := range ends {
				for _, file := range ends {
					for _, prot := range []int{math.MinInt, -1, 0, 3, math.MaxInt} {
						s := api.Segment{Addr: addr, Size: size, Off: off, FileSize: file, Prot: prot, Sections: []api.Section{{Addr: off, Size: file, Off: size}}}
						m := laid(s)
						m.Rebase, m.Strings, m.Entry, m.HasEntry = api.Span{Off: off, Size: size}, api.Span{Off: addr, Size: file}, size, true
						checkMay(t, m, off, size)
						checkPlaces(t, m)
						checkAddresses(t, b, m)
					}
				}
			}
		}
	}
}

func FuzzOf(f *testing.F) {
	f.Add([]byte{})
	f.Add(sliceOf(f, fine(), fineSlice))
	f.Add(sliceOf(f, lib(), 5000))
	f.Fuzz(func(t *testing.T, b []byte) { checkOf(t, b) })
}

func FuzzImages(f *testing.F) {
	f.Add(uint64(4096), uint64(8192), uint64(0), uint64(4096), 5, uint64(4096), uint64(64), uint64(0))
	f.Add(uint64(1<<64-16), uint64(64), uint64(8), uint64(56), 3, uint64(0), uint64(16), uint64(1))
	f.Fuzz(func(t *testing.T, addr, size, off, file uint64, prot int, at, long, from uint64) {
		x := api.Section{Addr: at, Size: long, Off: from}
		m := laid(api.Segment{Name: "a", Addr: addr, Size: size, Off: off, FileSize: file, Prot: prot, Sections: []api.Section{x}}, api.Segment{Name: "b", Addr: at, Size: long, Off: from, FileSize: long, Prot: prot / 8})
		m.Rebase, m.Symbols = api.Span{Off: at, Size: long}, api.Span{Off: from, Size: at}
		m.Entry, m.HasEntry = from, long%2 == 0
		checkMay(t, m, off, file)
		checkMay(t, m, math.MaxUint64, at)
		checkPlaces(t, m)
		checkAddresses(t, numbered(64), m)
	})
}
