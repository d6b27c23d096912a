package image_test

import (
	"bytes"
	"math"
	"testing"

	"clevis/api"
	"clevis/image"
)

// P6.3 (Word, Writable, Part)

func TestWord(t *testing.T) {
	b := make([]byte, fineSlice)
	copy(b[0x1900:], []byte{1, 2, 3, 4, 5, 6, 7, 0x88, 9})
	copy(b[0x1900+0x123-8:], []byte{0xF1, 0xF2, 0xF3, 0xF4, 0xF5, 0xF6, 0xF7, 0xF8, 0xA1, 0xA2})
	copy(b[fineSlice-2:], []byte{0xB1, 0xB2})
	for _, x := range []struct {
		what string
		addr uint64
		want uint64
		err  api.Errno
	}{
		{"a segment's first word", 0x14000, 0x8807060504030201, api.OK},
		{"one further, no multiple of anything", 0x14001, 0x0988070605040302, api.OK},
		{"up to FileSize", 0x1411B, 0xF8F7F6F5F4F3F2F1, api.OK},
		{"one byte behind FileSize", 0x1411C, 0x00F8F7F6F5F4F3F2, api.OK},
		{"one byte ahead of FileSize", 0x14122, 0xF8, api.OK},
		{"just behind FileSize", 0x14123, 0, api.OK},
		{"far behind FileSize", 0x15000, 0, api.OK},
		{"up to the segment's end", 0x16FF8, 0, api.OK},
		{"across the segment's end, another one behind it", 0x16FF9, 0, api.ErrRange},
		{"of no bytes in the file", 0x17000, 0, api.OK},
		{"across the last one's end", 0x17FF9, 0, api.ErrRange},
		{"up to the file's end", 0x202F8, 0xB2B1000000000000, api.OK},
		{"in a hole", 0x12000, 0, api.ErrRange},
		{"in the first hole", 0, 0, api.ErrRange},
		{"in a gap", 0x13000, 0, api.ErrRange},
		{"ahead of a segment", 0x13FFF, 0, api.ErrRange},
		{"behind all", fineHigh, 0, api.ErrRange},
		{"at the end of all addresses", math.MaxUint64, 0, api.ErrRange},
	} {
		if n, err := image.Word(b, fine(), x.addr); n != x.want || err != x.err {
			t.Errorf("%s: %x (%v), want %x (%v)", x.what, n, err, x.want, x.err)
		}
	}
	checkAddresses(t, numbered(fineSlice), fine())
	checkAddresses(t, numbered(5000), lib())
}

func TestWordWhereTheSliceHasNotAll(t *testing.T) {
	// One byte is missing of the last segment, and all of that one are noughts.
	b := numbered(fineSlice - 1)
	if n, err := image.Word(b, fine(), 0x20000); n != 0 || err != api.OK {
		t.Errorf("%x (%v)", n, err)
	}
	if n, err := image.Word(b, fine(), 0x14000); n == 0 || err != api.OK {
		t.Errorf("the segment ahead of it: %x (%v)", n, err)
	}
	if n, err := image.Word(b, fine(), 0x20FF9); n != 0 || err != api.ErrRange {
		t.Errorf("across its end: %x (%v)", n, err)
	}
	for size := range 64 {
		checkAddresses(t, numbered(size), laid(api.Segment{Addr: 4096, Size: 4096, Off: 20, FileSize: 30, Prot: 3}))
	}
	checkAddresses(t, nil, fine())
	for _, s := range []api.Segment{
		{Size: 4096, Off: math.MaxUint64, FileSize: 1, Prot: 1}, {Size: 4096, Off: 1, FileSize: math.MaxUint64, Prot: 1}, {Size: 4096, Off: 65, Prot: 1},
		{Size: 4096, Off: 1<<64 - 8, FileSize: 72, Prot: 1}, {Size: 4096, FileSize: math.MaxUint64, Prot: 1}, {Size: 4096, Off: 64, FileSize: 1, Prot: 1},
		{Size: 16, Off: 40, FileSize: 25, Prot: 1}, // of these bytes the slice has those within Size
	} {
		if n, err := image.Word(numbered(64), laid(s), 0); n != 0 || err != api.OK {
			t.Errorf("of %+v: %x (%v)", s, n, err)
		}
		checkAddresses(t, numbered(64), laid(s))
	}
}

func TestWordsThatGoRound(t *testing.T) {
	b := numbered(64)
	round := laid(api.Segment{Addr: 1<<64 - 16, Size: 64, FileSize: 64, Prot: 3})
	if n, err := image.Word(b, round, 1<<64-8); n != wordOf(b[8:]) || err != api.OK {
		t.Errorf("up to 2^64: %x (%v)", n, err)
	}
	for _, addr := range []uint64{1<<64 - 7, math.MaxUint64, 0} {
		if n, err := image.Word(b, round, addr); n != 0 || err != api.ErrRange {
			t.Errorf("at %x: %x (%v)", addr, n, err)
		}
	}
	for _, x := range []struct {
		addr, size uint64
		want       bool
	}{{1<<64 - 16, 16, true}, {1<<64 - 16, 17, false}, {math.MaxUint64, 1, true}, {math.MaxUint64, 2, false}, {0, 1, false}, {1<<64 - 16, 64, false}} {
		if is := image.Writable(round, x.addr, x.size); is != x.want {
			t.Errorf("%d bytes at %x: %v", x.size, x.addr, is)
		}
	}
}

// wordOf is the first 8 bytes, the lowest first.
func wordOf(b []byte) uint64 {
	var n uint64
	for i := range 8 {
		n |= uint64(b[i]) << (8 * i)
	}
	return n
}

func TestAWordOfFewerThan8Bytes(t *testing.T) {
	b := numbered(64)
	for size := range uint64(9) {
		m := laid(api.Segment{Addr: 4096, Size: size, FileSize: 8, Prot: 1})
		n, err := image.Word(b, m, 4096)
		if size < 8 && (n != 0 || err != api.ErrRange) || size == 8 && (n != wordOf(b) || err != api.OK) {
			t.Errorf("a segment of %d bytes: %x (%v)", size, n, err)
		}
	}
}

func TestWritable(t *testing.T) {
	for _, x := range []struct {
		what       string
		addr, size uint64
		want       bool
	}{
		{"a word", 0x14000, 8, true}, {"one byte", 0x16FFF, 1, true}, {"all of it", 0x14000, 0x3000, true}, {"behind FileSize", 0x15000, 8, true}, {"of no bytes in the file", 0x17FF8, 8, true},
		{"one byte more, another segment behind it", 0x14000, 0x3001, false}, {"across its end", 0x16FF9, 8, false}, {"one that may not be written", fineLow, 8, false}, {"the last one", 0x20000, 1, false},
		{"in a hole", 0x12000, 1, false}, {"in a gap", 0x13000, 1, false}, {"from a gap on", 0x13FFF, 2, false}, {"behind all", fineHigh, 1, false},
		{"so many that it goes round", 0x14000, math.MaxUint64, false}, {"so many that it ends where it begins", 0x15000, 1<<64 - 0x1000, false},
		{"no bytes", 0x14000, 0, false}, {"no bytes at its end", 0x18000, 0, false}, {"no bytes in a gap", 0x13000, 0, false}, {"no bytes at 0", 0, 0, false},
	} {
		if is := image.Writable(fine(), x.addr, x.size); is != x.want {
			t.Errorf("%s: %v", x.what, is)
		}
	}
	may := map[int]bool{2: true, 3: true, 6: true, 7: true}
	for _, prot := range []int{0, 1, 2, 3, 4, 5, 6, 7, 8, 10, 11, 14, 15, 1 << 32, 1<<32 + 3, -1, -2, -5, math.MaxInt, math.MinInt, math.MinInt + 2} {
		m := laid(api.Segment{Size: 4096, FileSize: 1, Prot: prot})
		if is := image.Writable(m, 0, 8); is != may[prot] {
			t.Errorf("Prot %d: %v", prot, is)
		}
	}
	if image.Writable(laid(), 0, 1) || image.Writable(laid(api.Segment{Size: math.MaxUint64, Prot: 3}), 0, math.MaxUint64) != true {
		t.Error("none, and all")
	}
}

func TestPart(t *testing.T) {
	b := numbered(100)
	l := []uint64{0, 1, 50, 98, 99, 100, 101, 1 << 32, 1 << 63, 1<<64 - 100, 1<<64 - 99, 1<<64 - 1}
	for _, off := range l {
		for _, size := range l {
			want := wantPart(b, api.Span{Off: off, Size: size})
			if got := image.Part(b, api.Span{Off: off, Size: size}); !bytes.Equal(got, want) {
				t.Errorf("%d, %d: % x, want % x", off, size, got, want)
			}
		}
	}
	if got := image.Part(b, api.Span{Off: 98, Size: 2}); !bytes.Equal(got, b[98:]) || len(got) != 2 {
		t.Errorf("the last two: % x", got)
	}
	if len(image.Part(nil, api.Span{})) != 0 || len(image.Part(nil, api.Span{Size: 1})) != 0 {
		t.Error("of no bytes")
	}
	// What stands behind a slice is not its own.
	if got := image.Part(b[:10], api.Span{Off: 5, Size: 6}); len(got) != 0 {
		t.Errorf("behind the slice: % x", got)
	}
}

func TestAPartIsACopy(t *testing.T) {
	b := numbered(100)
	got := image.Part(b, api.Span{Off: 10, Size: 20})
	clear(got)
	_ = append(got, 1, 2, 3)
	if !bytes.Equal(b, numbered(100)) {
		t.Error("the slice changes with a part")
	}
	got = image.Part(b, api.Span{Off: 10, Size: 20})
	clear(b)
	if !bytes.Equal(got, numbered(100)[10:30]) {
		t.Error("a part changes with the slice")
	}
}
