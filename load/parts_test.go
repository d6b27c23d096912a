package load_test

import (
	"math"
	"reflect"
	"slices"
	"strings"
	"testing"

	"clevis/api"
	"clevis/load"
)

// P5.2 (Segment, Name, Spans, Known)

func isSegment(t *testing.T, what string, b []byte, want api.Segment, wantErr api.Errno) {
	t.Helper()
	if s, err := load.Segment(b); !reflect.DeepEqual(s, want) || err != wantErr {
		t.Errorf("%s: Segment is %+v (%v), want %+v (%v)", what, s, err, want, wantErr)
	}
	checkParts(t, b)
}

func isName(t *testing.T, what string, b []byte, want string, wantErr api.Errno) {
	t.Helper()
	if name, err := load.Name(b); name != want || err != wantErr {
		t.Errorf("%s: Name is %q (%v), want %q (%v)", what, name, err, want, wantErr)
	}
	checkParts(t, b)
}

func isSpans(t *testing.T, what string, b []byte, wantErr api.Errno, want ...api.Span) {
	t.Helper()
	if l, err := load.Spans(b); !reflect.DeepEqual(l, want) || err != wantErr {
		t.Errorf("%s: Spans are %v (%v), want %v (%v)", what, l, err, want, wantErr)
	}
	checkParts(t, b)
}

func TestSegmentByItsBytes(t *testing.T) {
	b := slices.Concat(
		[]byte{0x19, 0, 0, 0, 152, 0, 0, 0}, []byte("__DATA\x00\x00\x00\x00\x00\x00\x00\x00\x00\x00"),
		[]byte{1, 2, 3, 4, 5, 6, 7, 8}, []byte{9, 0, 0, 0, 0, 0, 0, 0xA}, []byte{0xB, 0, 0, 0, 0, 0, 0, 0xC}, []byte{0xD, 0, 0, 0, 0, 0, 0, 0xE},
		[]byte{7, 0, 0, 0}, []byte{3, 0, 0, 0}, []byte{1, 0, 0, 0}, []byte{0xFF, 0xFF, 0xFF, 0xFF},
		[]byte("__mod_init_func\x00"), []byte("__DATA\x00\x00\x00\x00\x00\x00\x00\x00\x00\x00"),
		[]byte{0x11, 0, 0, 0, 0, 0, 0, 0x12}, []byte{0x13, 0, 0, 0, 0, 0, 0, 0x14}, []byte{0x15, 0, 0, 0x16},
		[]byte{1, 1, 1, 1}, []byte{2, 2, 2, 2}, []byte{3, 3, 3, 3}, []byte{9, 4, 4, 4}, []byte("555566667777"))
	isSegment(t, "a segment", b, api.Segment{
		Name: "__DATA", Addr: 0x0807060504030201, Size: 0x0A00000000000009, Off: 0x0C0000000000000B, FileSize: 0x0E0000000000000D, Prot: 3,
		Sections: []api.Section{{Name: "__mod_init_func", Segment: "__DATA", Addr: 0x1200000000000011, Size: 0x1400000000000013, Off: 0x16000015, Kind: 9}},
	}, api.OK)
}

func TestSegmentOfSoManySections(t *testing.T) {
	for n := range 67 {
		s := text("__TEXT", n)
		if n > 64 {
			isSegment(t, "too many", segment(s), api.Segment{}, api.ErrMany)
			continue
		}
		isSegment(t, "sections", segment(s), s, api.OK)
		isSegment(t, "sections, and bytes behind them", append(segment(s), 1, 2, 3), s, api.OK)
	}
	if s, err := load.Segment(segment(text("a", 2000))); s.Sections != nil || err != api.ErrMany {
		t.Errorf("2000 sections: %v (%v)", s, err)
	}
}

func TestSegmentsNames(t *testing.T) {
	for _, name := range []string{"", "a", "\xFF\x01", strings.Repeat("n", 15), strings.Repeat("n", 16)} {
		s := text(name, 3)
		isSegment(t, "a name", segment(s), s, api.OK)
		s.Sections[1].Name = name
		isSegment(t, "a section's name", segment(s), s, api.OK)
	}
	s := text("ab", 2)
	b := segment(s)
	copy(b[8:], "ab\x00other bytes!!")
	copy(b[72+80+16:], "ab\x00yet others..")
	isSegment(t, "bytes behind the first 0", b, s, api.OK)
	for _, other := range []string{"", "a", "abc", "AB", "ab ", "b"} {
		for i := range s.Sections {
			bad := text("ab", 2)
			bad.Sections[i].Segment = other
			isSegment(t, "a section of another segment's name", segment(bad), api.Segment{}, api.ErrSection)
		}
	}
}

func TestSegmentsProt(t *testing.T) {
	for prot := range 8 {
		s := text("a", 1)
		s.Prot = prot
		isSegment(t, "a Prot", segment(s), s, api.OK)
	}
	for _, prot := range []uint32{8, 9, 15, 16, 0x100, 0x107, 0x80000000, 0x80000007, math.MaxUint32} {
		b := segment(text("a", 0))
		copy(b[60:], n4(prot))
		isSegment(t, "a Prot above 7", b, api.Segment{}, api.ErrSection)
	}
}

func TestSegmentOfFewBytes(t *testing.T) {
	for n := range 4 {
		b := segment(text("a", n))
		for size := range len(b) {
			isSegment(t, "a segment that is cut short", b[:size], api.Segment{}, api.ErrShort)
		}
	}
	for _, count := range []uint32{3, 64, 65, 0x33333333, 0x80000000, math.MaxUint32} {
		b := segment(text("a", 2))
		copy(b[64:], n4(count))
		isSegment(t, "more sections than there are", b, api.Segment{}, api.ErrShort)
	}
}

// TestHowManyBytesACommandSays: nobody but who cuts commands asks for it.
func TestHowManyBytesACommandSays(t *testing.T) {
	for _, says := range []uint32{0, 1, 8, 72, 1 << 20, math.MaxUint32} {
		b := segment(text("a", 1))
		copy(b[4:], n4(says))
		isSegment(t, "a segment", b, text("a", 1), api.OK)
		b = named(0xC, "name")
		copy(b[4:], n4(says))
		isName(t, "a name", b, "name", api.OK)
		b = of(0x80000034, n4(3, 4))
		copy(b[4:], n4(says))
		isSpans(t, "spans", b, api.OK, api.Span{Off: 3, Size: 4})
	}
}

func TestName(t *testing.T) {
	for _, cmd := range []uint32{0xD, 0xC, 0x80000018, 0x8000001F, 0x80000023} {
		isName(t, "a name", named(cmd, "/usr/lib/x"), "/usr/lib/x", api.OK)
		isName(t, "a name of other bytes", named(cmd, "\xFF \n\x01"), "\xFF \n\x01", api.OK)
		isName(t, "no bytes", named(cmd, ""), "", api.ErrName)
		isName(t, "the first of two", named(cmd, "ab\x00cd"), "ab", api.OK)
	}
}

func TestWhereANameStands(t *testing.T) {
	head := n4(0xC, 40)
	rest := append(n4(0x636261, 0x00666564, 0x69686700), []byte("name\x00z\x00yyyyyyyyy")...)
	for where, want := range map[uint32]string{0: "\x0C", 4: "(", 12: "abc", 13: "bc", 14: "c", 16: "def", 21: "ghiname", 24: "name", 27: "e", 29: "z"} {
		isName(t, "a name", slices.Concat(head, n4(where), rest), want, api.OK)
	}
	for _, where := range []uint32{1, 2, 5, 9, 11, 15, 19, 20, 28, 30} {
		isName(t, "no bytes", slices.Concat(head, n4(where), rest), "", api.ErrName)
	}
	for _, where := range []uint32{31, 35, 39, 40, 41, 48, 0x7FFFFFFF, 0x80000000, 0x80000018, math.MaxUint32} {
		isName(t, "one that does not end, or stands behind the end", slices.Concat(head, n4(where), rest), "", api.ErrName)
	}
	b := slices.Concat(n4(0xC, 24, 23), []byte("\x00\x00\x00\x00\x00\x00\x00\x00\x00\x00a"), []byte{0})
	isName(t, "no room behind its numbers", b, "", api.ErrName)
	copy(b[8:], n4(22))
	isName(t, "a name at the end", b, "a", api.OK)
}

func TestHowLongANameIs(t *testing.T) {
	for _, n := range []int{1, 2, 100, 254, 255} {
		name := strings.Repeat("n", n)
		isName(t, "a long name", named(0xD, name), name, api.OK)
	}
	for _, n := range []int{256, 257, 300, 5000} {
		isName(t, "too long a name", named(0xD, strings.Repeat("n", n)), "", api.ErrName)
	}
	for n := range 24 {
		open := slices.Concat(n4(0xD, 24, 24, 0, 0, 0), slices.Repeat([]byte{'n'}, n))
		isName(t, "a name that does not end", open, "", api.ErrName)
	}
	long := slices.Concat(n4(0xD, 24, 24, 0, 0, 0), slices.Repeat([]byte{'n'}, 255))
	isName(t, "255 bytes, and no 0", long, "", api.ErrName)
	isName(t, "255 bytes, and a 0", append(long, 0), strings.Repeat("n", 255), api.OK)
	refused(t, "a name that ends in the command behind it alone", api.ErrName, of(0xC, n4(24, 0, 0, 0), []byte("abcdefgh")), of(0))
}

func TestSpans(t *testing.T) {
	five := []api.Span{{Off: 1, Size: 2}, {Off: 3, Size: 4}, {Off: 5, Size: 6}, {Off: 7, Size: 8}, {Off: 9, Size: 10}}
	for _, cmd := range []uint32{0x22, 0x80000022} {
		isSpans(t, "five", of(cmd, n4(1, 2, 3, 4, 5, 6, 7, 8, 9, 10)), api.OK, five...)
		isSpans(t, "five, and bytes behind them", of(cmd, n4(1, 2, 3, 4, 5, 6, 7, 8, 9, 10, 11, 12)), api.OK, five...)
		isSpans(t, "five of nothing", of(cmd, make([]byte, 40)), api.OK, make([]api.Span, 5)...)
		isSpans(t, "of size 0", of(cmd, n4(1, 0, 3, 0, 5, 0, 7, 0, 9, 0)), api.OK, api.Span{Off: 1}, api.Span{Off: 3}, api.Span{Off: 5}, api.Span{Off: 7}, api.Span{Off: 9})
	}
	for _, cmd := range []uint32{0x80000033, 0x80000034} {
		isSpans(t, "one", of(cmd, n4(0x04030201, 0x08070605)), api.OK, api.Span{Off: 0x04030201, Size: 0x08070605})
		isSpans(t, "one, and bytes behind it", of(cmd, n4(1, 2, 3, 4)), api.OK, api.Span{Off: 1, Size: 2})
		isSpans(t, "of size 0", of(cmd, n4(7, 0)), api.OK, api.Span{Off: 7})
	}
	isSpans(t, "two", of(2, n4(1, 2, 3, 4)), api.OK, api.Span{Off: 1, Size: 32}, api.Span{Off: 3, Size: 4})
	isSpans(t, "two of nothing", of(2, n4(0, 0, 0, 0)), api.OK, api.Span{}, api.Span{})
	isSpans(t, "the greatest two", of(2, n4(math.MaxUint32, math.MaxUint32, math.MaxUint32, math.MaxUint32)), api.OK, api.Span{Off: math.MaxUint32, Size: 0xFFFFFFFF0}, api.Span{Off: math.MaxUint32, Size: math.MaxUint32})
}

func TestKnown(t *testing.T) {
	for _, cmd := range known() {
		if !load.Known(cmd) {
			t.Errorf("%x is not known", cmd)
		}
		for bit := range 32 {
			other := cmd ^ 1<<bit
			if load.Known(other) != slices.Contains(known(), other) {
				t.Errorf("%x: known? %v", other, load.Known(other))
			}
		}
	}
	for cmd := range uint32(1 << 12) {
		for _, high := range []uint32{0, 0x80000000} {
			if load.Known(high|cmd) != slices.Contains(known(), high|cmd) {
				t.Errorf("%x: known? %v", high|cmd, load.Known(high|cmd))
			}
		}
	}
}

// TestPartsOfOtherCommands: ErrShort of fewer than 8 bytes, or than the command has at least; ErrCommand of another kind.
func TestPartsOfOtherCommands(t *testing.T) {
	cmds := append(known(), 0, 1, 0x1B, 0x99, 0x80000000, 0x80000099, math.MaxUint32)
	for _, cmd := range cmds {
		for size := range 200 {
			b := n4(cmd, 200)
			b = append(b, make([]byte, 192)...)
			want := api.ErrCommand
			if size < 8 || size < least(cmd) {
				want = api.ErrShort
			}
			if cmd != 0x19 {
				isSegment(t, "no segment", b[:size], api.Segment{}, want)
			}
			if least(cmd) != 24 || cmd == 2 || cmd == 0x80000028 {
				isName(t, "no name", b[:size], "", want)
			}
			if cmd == 0x19 || least(cmd) == 0 || least(cmd) == 24 && cmd != 2 {
				isSpans(t, "no spans", b[:size], want)
			}
		}
	}
	// Of a command 19 its sections are not asked for, nor whether it is otherwise right.
	b := segment(text("a", 0))
	copy(b[60:], n4(99, math.MaxUint32))
	isSegment(t, "sections that there are not", b, api.Segment{}, api.ErrShort)
	isName(t, "a segment", b, "", api.ErrCommand)
	isSpans(t, "a segment", b, api.ErrCommand)
	isSegment(t, "a name that is none", named(0xC, ""), api.Segment{}, api.ErrCommand)
	isSpans(t, "a name that is none", named(0xC, ""), api.ErrCommand)
}
