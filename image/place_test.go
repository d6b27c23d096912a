package image_test

import (
	"math"
	"testing"

	"clevis/api"
	"clevis/image"
)

// P6.2 (Low, High, At, Place), and P6.4 (what follows)

func TestLowAndHigh(t *testing.T) {
	for _, x := range []struct {
		what      string
		m         api.Image
		low, high uint64
	}{
		{"fine", fine(), fineLow, fineHigh},
		{"a library", lib(), 0, 12288},
		{"no segments", laid(), 0, 0},
		{"holes alone", laid(api.Segment{Addr: 4096, Size: 4096}, api.Segment{Addr: 8192, Size: 4096}), 0, 0},
		{"a hole behind all else", laid(api.Segment{Addr: 4096, Size: 4096, Prot: 1}, api.Segment{Addr: 8192, Size: 4096}), 4096, 8192},
		{"Prot 0, but bytes in the file: no hole", laid(api.Segment{Addr: 4096, Size: 4096, FileSize: 1}), 4096, 8192},
		{"the first one is not the lowest, nor the last one the highest", laid(api.Segment{Addr: 8192, Size: 8192, Prot: 1}, api.Segment{Size: 4096, Prot: 1}), 8192, 16384},
		{"an end that goes round to 0", laid(api.Segment{Addr: 1<<64 - 4096, Size: 4096, Prot: 1}), 1<<64 - 4096, 0},
		{"an end that goes round, beside one that doesn't", laid(api.Segment{Addr: 1<<64 - 4096, Size: 5000, Prot: 1}, api.Segment{Size: 905, Prot: 1}), 1<<64 - 4096, 905},
		{"an end at 2^64 - 1", laid(api.Segment{Size: math.MaxUint64, Prot: -1}), 0, math.MaxUint64},
	} {
		if low, high := image.Low(x.m), image.High(x.m); low != x.low || high != x.high {
			t.Errorf("%s: %x, %x, want %x, %x", x.what, low, high, x.low, x.high)
		}
		checkPlaces(t, x.m)
	}
}

func TestAt(t *testing.T) {
	for _, x := range []struct {
		addr uint64
		want int
	}{
		{0, -1}, {fineLow - 1, -1}, {fineLow, text}, {0x11FFF, text}, {0x12000, -1}, {0x12FFF, -1}, {0x13000, -1}, {0x13FFF, -1}, {0x14000, data}, {0x14122, data}, {0x14123, data},
		{0x16FFF, data}, {0x17000, bss}, {0x17FFF, bss}, {0x18000, -1}, {0x1FFFF, -1}, {0x20000, link}, {0x20FFF, link}, {fineHigh, -1}, {math.MaxUint64, -1},
	} {
		if i := image.At(fine(), x.addr); i != x.want {
			t.Errorf("%x: %d, want %d", x.addr, i, x.want)
		}
	}
	if i := image.At(laid(), 0); i != -1 {
		t.Errorf("no segments: %d", i)
	}
}

func TestAtOfImagesThatMayNotBe(t *testing.T) {
	over := laid(api.Segment{Addr: 16, Size: 16}, api.Segment{Addr: 16, Size: 16, Prot: 8}, api.Segment{Size: 100, FileSize: 1}, api.Segment{Addr: 40, Prot: 1})
	for addr, want := range map[uint64]int{0: 2, 15: 2, 16: 1, 31: 1, 32: 2, 40: 2, 99: 2, 100: -1} {
		if i := image.At(over, addr); i != want {
			t.Errorf("%d, of segments that meet: %d, want %d", addr, i, want)
		}
	}
	round := laid(api.Segment{Addr: 1<<64 - 4096, Size: 8192, Prot: 1})
	for addr, want := range map[uint64]int{0: -1, 4095: -1, 1<<64 - 4097: -1, 1<<64 - 4096: 0, math.MaxUint64: 0} {
		if i := image.At(round, addr); i != want {
			t.Errorf("%x, of a segment that goes round: %d, want %d", addr, i, want)
		}
	}
}

func TestPlace(t *testing.T) {
	for _, x := range []struct {
		segment, offset uint64
		want            uint64
		err             api.Errno
	}{
		{text, 0, fineLow, api.OK}, {text, 0x1FFF, 0x11FFF, api.OK}, {text, 0x2000, 0, api.ErrRange}, {text, math.MaxUint64, 0, api.ErrRange},
		{data, 0x124, 0x14124, api.OK}, {data, 0x2FFF, 0x16FFF, api.OK}, {data, 0x3000, 0, api.ErrRange}, {link, 0xFFF, 0x20FFF, api.OK},
		{zero, 0, 0, api.ErrSegment}, {zero, math.MaxUint64, 0, api.ErrSegment}, {gap, 0, 0, api.ErrSegment},
		{6, 0, 0, api.ErrSegment}, {6, math.MaxUint64, 0, api.ErrSegment}, {1 << 32, 0, 0, api.ErrSegment}, {1<<63 + text, 0, 0, api.ErrSegment}, {math.MaxUint64, 0, 0, api.ErrSegment},
	} {
		if addr, err := image.Place(fine(), x.segment, x.offset); addr != x.want || err != x.err {
			t.Errorf("%d, %x: %x (%v), want %x (%v)", x.segment, x.offset, addr, err, x.want, x.err)
		}
	}
	if addr, err := image.Place(laid(), 0, 0); addr != 0 || err != api.ErrSegment {
		t.Errorf("no segments: %x (%v)", addr, err)
	}
	round := laid(api.Segment{Addr: 1<<64 - 4096, Size: 8192, Prot: 1})
	for offset, want := range map[uint64]uint64{0: 1<<64 - 4096, 4095: math.MaxUint64, 4096: 0, 8191: 4095} {
		if addr, err := image.Place(round, 0, offset); addr != want || err != api.OK {
			t.Errorf("%d of a segment that goes round: %x (%v), want %x", offset, addr, err, want)
		}
	}
}

// TestWildImages: each one, two and three of the wild segments, in each order, and beside a fine image's.
func TestWildImages(t *testing.T) {
	b := numbered(64)
	l := wild()
	for _, x := range l {
		checkPlaces(t, laid(x))
		checkAddresses(t, b, laid(x))
		checkMay(t, laid(x), 64, 0)
		checkMay(t, laid(x), math.MaxUint64, 0)
		for _, y := range l {
			checkPlaces(t, laid(x, y))
			checkAddresses(t, b, laid(x, y))
			for _, z := range l {
				checkPlaces(t, laid(x, y, z))
			}
		}
		checkPlaces(t, changed(func(m *api.Image) { m.Segments = append(m.Segments, x) }))
		checkAddresses(t, numbered(fineSlice), changed(func(m *api.Image) { m.Segments = append([]api.Segment{x}, m.Segments...) }))
	}
}

// TestAnAddressHasOneSegment: of an image that may be each address stands in one segment at most, and a place is an address of its segment.
func TestAnAddressHasOneSegment(t *testing.T) {
	for _, m := range []api.Image{fine(), lib()} {
		met := map[uint64]int{}
		for i, s := range m.Segments {
			for offset := uint64(0); offset < s.Size; offset++ {
				addr, err := image.Place(m, uint64(i), offset)
				if hole(s) {
					if err != api.ErrSegment {
						t.Fatalf("%d, %x, of a hole: %v", i, offset, err)
					}
					break
				}
				if err != api.OK || addr != s.Addr+offset || image.At(m, addr) != i {
					t.Fatalf("%d, %x: %x (%v), of the segment %d", i, offset, addr, err, image.At(m, addr))
				}
				met[addr]++
			}
		}
		for addr := image.Low(m); addr < image.High(m); addr++ {
			if met[addr] > 1 || (met[addr] == 1) != (image.At(m, addr) >= 0) {
				t.Fatalf("%x: %d places, of the segment %d", addr, met[addr], image.At(m, addr))
			}
		}
		if image.At(m, image.Low(m)) < 0 || image.At(m, image.High(m)-1) < 0 || image.At(m, image.High(m)) >= 0 {
			t.Errorf("low and high are not where the segments begin and end")
		}
	}
}
