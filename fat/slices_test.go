package fat_test

import (
	"bytes"
	"math"
	"slices"
	"testing"

	"clevis/api"
	"clevis/fat"
)

// P3.1 (Slices)

// told asks for the slices of a file, the error besides.
func told(t *testing.T, what string, b []byte, want []api.Slice, wantErr api.Errno) {
	t.Helper()
	l, err := fat.Slices(b)
	if err != wantErr || !slices.Equal(l, want) {
		t.Errorf("%s: %v (%v), want %v (%v)", what, l, err, want, wantErr)
	}
	if err != api.OK && l != nil {
		t.Errorf("%s: slices beside an error: %v", what, l)
	}
	check(t, b)
}

func refused(t *testing.T, what string, b []byte, want api.Errno) {
	t.Helper()
	told(t, what, b, nil, want)
}

func TestThinFiles(t *testing.T) {
	for _, x := range []struct {
		cpu, sub uint32
		more     int
	}{
		{0x0100000C, 0, 0},
		{0x0100000C, 2, 1},
		{0x0100000C, 0x80000002, 20},
		{0x01000007, 3, 4096},
		{0, math.MaxUint32, 5},
		{0x0100000C, 0, api.MaxFile - 12},
	} {
		b := thin(x.cpu, x.sub, x.more)
		told(t, "a thin file", b, []api.Slice{{Cpu: x.cpu, Sub: x.sub, Span: api.Span{Off: 0, Size: uint64(12 + x.more)}}}, api.OK)
	}
}

func TestThinNumbersStandLowestFirst(t *testing.T) {
	b := []byte{0xCF, 0xFA, 0xED, 0xFE, 0x0C, 0, 0, 1, 2, 3, 4, 0x85}
	told(t, "thin", b, []api.Slice{{Cpu: 0x0100000C, Sub: 0x85040302, Span: api.Span{Size: 12}}}, api.OK)
}

func TestFatFileByItsBytes(t *testing.T) {
	b := []byte{
		0xCA, 0xFE, 0xBA, 0xBE, 0, 0, 0, 2,
		1, 0, 0, 0x0C, 0x80, 0, 0, 2, 0, 0, 0, 52, 0, 0, 0, 3, 0, 0, 0, 2,
		1, 0, 0, 7, 0, 0, 0, 3, 0, 0, 0, 48, 0, 0, 0, 4, 0, 0, 0, 4,
		'o', 'n', 'e', '.', 't', 'w', 'o',
	}
	told(t, "fat", b, []api.Slice{
		{Cpu: 0x0100000C, Sub: 0x80000002, Span: api.Span{Off: 52, Size: 3}, Align: 2},
		{Cpu: 0x01000007, Sub: 3, Span: api.Span{Off: 48, Size: 4}, Align: 4},
	}, api.OK)
}

func TestWideFileByItsBytes(t *testing.T) {
	b := []byte{
		0xCA, 0xFE, 0xBA, 0xBF, 0, 0, 0, 1,
		1, 0, 0, 0x0C, 9, 8, 7, 6, 0, 0, 0, 0, 0, 0, 0, 40, 0, 0, 0, 0, 0, 0, 0, 2, 0, 0, 0, 3, 0xFF, 0xFE, 0xFD, 0xFC,
		'a', 'b', 'c',
	}
	told(t, "wide", b, []api.Slice{{Cpu: 0x0100000C, Sub: 0x09080706, Span: api.Span{Off: 40, Size: 2}, Align: 3}}, api.OK)
}

func TestFileWithoutEntries(t *testing.T) {
	for _, wide := range []bool{false, true} {
		told(t, "no entries", head(wide, 0), nil, api.OK)
		told(t, "no entries, and bytes", append(head(wide, 0), 1, 2, 3), nil, api.OK)
	}
}

func TestSlicesStandInTheOrderOfTheEntries(t *testing.T) {
	for _, wide := range []bool{false, true} {
		l := []row{{cpu: 9, sub: 1, off: 300, size: 20}, {cpu: 1, sub: 9, off: 200, size: 10}, {cpu: 5, sub: 5, off: 250, size: 50}, {cpu: 5, sub: 4, off: 210, size: 0}}
		var want []api.Slice
		for _, r := range l {
			want = append(want, r.slice())
		}
		told(t, "four entries", file(wide, 320, l...), want, api.OK)
	}
}

func TestFewBytes(t *testing.T) {
	files := map[string][]byte{"thin": thin(api.Cpu, 0, 0), "fat": head(false, 0), "wide": head(true, 0)}
	for what, b := range files {
		for n := range len(b) {
			refused(t, what, b[:n], api.ErrShort)
		}
	}
	refused(t, "nil", nil, api.ErrShort)
	refused(t, "not a magic, three bytes", []byte("abc"), api.ErrShort)
}

func TestMagic(t *testing.T) {
	for _, s := range []string{"abcd", "\x00\x00\x00\x00", "\xFE\xED\xFA\xCF", "\xCE\xFA\xED\xFE", "\xBE\xBA\xFE\xCA", "\xBF\xBA\xFE\xCA", "\xCA\xFE\xBA\xC0", "\xCA\xFE\xBA\xBD", "\xCF\xFA\xED\xFF"} {
		refused(t, s, []byte(s), api.ErrMagic)
		refused(t, s, append([]byte(s), make([]byte, 100)...), api.ErrMagic)
	}
}

func TestFileOfTooManyBytes(t *testing.T) {
	for _, b := range [][]byte{thin(api.Cpu, 0, 0), head(false, 0), head(true, 0), []byte("abcd"), nil} {
		full := append(bytes.Clone(b), make([]byte, api.MaxFile-len(b))...)
		if _, err := fat.Slices(full); err == api.ErrMany {
			t.Errorf("% x and noughts, MaxFile bytes in all: %v", b, err)
		}
		refused(t, "one byte more", append(full, 0), api.ErrMany)
	}
}

func TestHowManyEntries(t *testing.T) {
	for _, wide := range []bool{false, true} {
		var l []row
		for i := range uint32(32) {
			l = append(l, row{cpu: 7, sub: i, off: 2000 + uint64(i), size: 1})
		}
		b := file(wide, 2032, l...)
		var want []api.Slice
		for _, r := range l {
			want = append(want, r.slice())
		}
		told(t, "32 entries", b, want, api.OK)
		for _, n := range []uint32{33, 34, 256, 1 << 16, 1 << 31, math.MaxUint32} {
			refused(t, "more than 32 entries", append(head(wide, n, l...), make([]byte, 4000)...), api.ErrMany)
			refused(t, "more than 32 entries, and no bytes", head(wide, n), api.ErrMany)
		}
	}
}

func TestFewerBytesThanTheEntriesHave(t *testing.T) {
	for _, wide := range []bool{false, true} {
		for n := 1; n <= 32; n++ {
			var l []row
			for i := range n {
				l = append(l, row{cpu: uint32(i), off: behind(wide, n)})
			}
			b := file(wide, 0, l...)
			if _, err := fat.Slices(b); err != api.OK {
				t.Fatalf("%d entries, and no more bytes: %v", n, err)
			}
			refused(t, "one byte fewer", b[:len(b)-1], api.ErrShort)
			refused(t, "half an entry fewer", b[:len(b)-11], api.ErrShort)
			refused(t, "no entry", b[:8], api.ErrShort)
		}
	}
}

// TestWhereASliceMayBe: one entry, in a file of 65600 bytes.
func TestWhereASliceMayBe(t *testing.T) {
	const all = 65600
	for _, wide := range []bool{false, true} {
		front := behind(wide, 1)
		for _, x := range []struct {
			off, size uint64
			align     uint32
			may       bool
		}{
			{front, all - front, 0, true},
			{front, all - front + 1, 0, false},
			{front, 0, 0, true},
			{front - 1, 1, 0, false},
			{front - 1, 0, 0, false},
			{0, 0, 0, false},
			{0, all, 0, false},
			{all, 0, 0, true},
			{all, 1, 0, false},
			{all + 1, 0, 0, false},
			{all - 1, 1, 0, true},
			{all - 1, 2, 0, false},
			{math.MaxUint32, 0, 0, false},
			{math.MaxUint32, math.MaxUint32, 0, false},
			{front, math.MaxUint32, 0, false},
			{40, 1, 3, true},
			{41, 1, 0, true},
			{41, 1, 1, false},
			{42, 1, 1, true},
			{42, 1, 2, false},
			{48, 9, 4, true},
			{48, 9, 5, false},
			{16384, 9, 14, true},
			{16384, 9, 15, false},
			{32768, 9, 15, true},
			{32768 + 16384, 9, 14, true},
			{32768 + 16384, 9, 15, false},
			{65536, 9, 15, true},
			{65536, 9, 16, false},
			{32768, 9, 16, false},
			{65536, 64, 31, false},
			{65536, 64, 32, false},
			{65536, 64, 63, false},
			{65536, 64, 64, false},
			{65536, 64, 1 << 31, false},
			{65536, 64, math.MaxUint32, false},
			{front - 4, 0, 15, false},
		} {
			one := row{cpu: 3, sub: 4, off: x.off, size: x.size, align: x.align}
			if x.may {
				told(t, "one that may be", file(wide, all, one), []api.Slice{one.slice()}, api.OK)
			} else {
				refused(t, "one that may not be", file(wide, all, one), api.ErrRange)
			}
		}
	}
}

func TestWidePlacesAreChecked(t *testing.T) {
	for _, x := range []row{
		{off: math.MaxUint64, size: 1},
		{off: math.MaxUint64, size: 0},
		{off: math.MaxUint64 - 9, size: 60},
		{off: 1 << 63, size: 1 << 63},
		{off: 1<<64 - 64, size: 128},
		{off: 64, size: math.MaxUint64},
		{off: 64, size: 1<<64 - 64},
		{off: 64, size: 1<<64 - 65},
		{off: 1<<32 + 64, size: 1},
		{off: 64, size: 1<<32 + 1},
	} {
		refused(t, "beyond", file(true, 100, x), api.ErrRange)
		second := []row{{cpu: 1, off: 80, size: 10}, x}
		second[1].cpu = 2
		refused(t, "beyond, the second one", file(true, 100, second...), api.ErrRange)
	}
}

func TestTwoThatMeet(t *testing.T) {
	for _, wide := range []bool{false, true} {
		for _, x := range []struct {
			a, b api.Span
			meet bool
		}{
			{api.Span{Off: 100, Size: 10}, api.Span{Off: 110, Size: 10}, false},
			{api.Span{Off: 100, Size: 11}, api.Span{Off: 110, Size: 10}, true},
			{api.Span{Off: 100, Size: 10}, api.Span{Off: 100, Size: 10}, true},
			{api.Span{Off: 100, Size: 30}, api.Span{Off: 110, Size: 10}, true},
			{api.Span{Off: 100, Size: 30}, api.Span{Off: 129, Size: 1}, true},
			{api.Span{Off: 100, Size: 30}, api.Span{Off: 130, Size: 1}, false},
			{api.Span{Off: 100, Size: 30}, api.Span{Off: 110, Size: 0}, false},
			{api.Span{Off: 100, Size: 0}, api.Span{Off: 100, Size: 0}, false},
			{api.Span{Off: 100, Size: 0}, api.Span{Off: 100, Size: 9}, false},
		} {
			for _, turned := range []bool{false, true} {
				a, b := x.a, x.b
				if turned {
					a, b = b, a
				}
				l := []row{{cpu: 1, off: a.Off, size: a.Size}, {cpu: 9, off: 90, size: 3}, {cpu: 2, off: b.Off, size: b.Size}}
				if wide {
					l[1].off = 180
				}
				for i := range l {
					l[i].off += 100
				}
				if x.meet {
					refused(t, "two that meet", file(wide, 300, l...), api.ErrRange)
					continue
				}
				told(t, "two that don't meet", file(wide, 300, l...), []api.Slice{l[0].slice(), l[1].slice(), l[2].slice()}, api.OK)
			}
		}
	}
}

func TestTwice(t *testing.T) {
	for _, wide := range []bool{false, true} {
		for _, x := range []struct {
			cpu, sub, cpu2, sub2 uint32
			twice                bool
		}{
			{api.Cpu, 0, api.Cpu, 0, true},
			{api.Cpu, 0, api.Cpu, 2, false},
			{api.Cpu, 2, api.Cpu, 0x80000002, true},
			{api.Cpu, 0xFF000000, api.Cpu, 0, true},
			{api.Cpu, 1 << 23, api.Cpu, 0, false},
			{api.Cpu, 1 << 24, api.Cpu, 0, true},
			{7, 5, 8, 5, false},
			{7, 5, 7, 5, true},
			{7, 5, 1<<31 + 7, 5, false},
		} {
			for _, off := range []uint64{230, 240} {
				l := []row{{cpu: x.cpu, sub: x.sub, off: 240, size: 0}, {cpu: 99, off: 239, size: 1}, {cpu: x.cpu2, sub: x.sub2, off: off, size: 1}}
				if x.twice {
					refused(t, "two of one architecture", file(wide, 300, l...), api.ErrTwice)
				} else {
					told(t, "two of two architectures", file(wide, 300, l...), []api.Slice{l[0].slice(), l[1].slice(), l[2].slice()}, api.OK)
				}
			}
		}
	}
}

// TestWhichErrorIsFirst: files of which more than one is true.
func TestWhichErrorIsFirst(t *testing.T) {
	for _, wide := range []bool{false, true} {
		twins := []row{{cpu: 1, off: 200, size: 9}, {cpu: 1, off: 208, size: 9}}
		refused(t, "two that meet, of one architecture", file(wide, 300, twins...), api.ErrRange)
		twins[1].off = 209
		refused(t, "two of one architecture", file(wide, 300, twins...), api.ErrTwice)
		refused(t, "two of one architecture, the last one beyond", file(wide, 300, append(twins, row{cpu: 4, off: 300, size: 1})...), api.ErrRange)
		refused(t, "two of one architecture, the last one of an align", file(wide, 300, append(twins, row{cpu: 4, off: 258, size: 1, align: 2})...), api.ErrRange)
		refused(t, "one that may not be, and too few bytes", head(wide, 2, row{off: 1 << 30}), api.ErrShort)
		refused(t, "too many entries, and too few bytes", head(wide, 33, row{off: 1 << 30}), api.ErrMany)
	}
}

func TestSlicesAreNewMemory(t *testing.T) {
	b := file(false, 300, row{cpu: 1, off: 200, size: 9}, row{cpu: 2, off: 220, size: 9})
	first, _ := fat.Slices(b)
	clear(first)
	told(t, "what was told was cleared", b, []api.Slice{{Cpu: 1, Span: api.Span{Off: 200, Size: 9}}, {Cpu: 2, Span: api.Span{Off: 220, Size: 9}}}, api.OK)
	second, _ := fat.Slices(b)
	want := slices.Clone(second)
	clear(b)
	if !slices.Equal(second, want) {
		t.Errorf("what was told changes with the file: %v", second)
	}
}
