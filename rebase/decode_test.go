package rebase_test

import (
	"bytes"
	"encoding/binary"
	"math"
	"reflect"
	"slices"
	"strings"
	"testing"

	"clevis/api"
	"clevis/rebase"
)

// P13.1 (Decode)

func TestTheDocumentsExamples(t *testing.T) {
	slice, m := fine()
	l, err := rebase.Decode(slice, m, []byte{0x11, 0x21, 0x00, 0x52, 0x00})
	want := []api.Fixup{
		{At: 0x12000, Kind: api.FixRebase, Target: binary.LittleEndian.Uint64(slice[0x1000:])},
		{At: 0x12008, Kind: api.FixRebase, Target: binary.LittleEndian.Uint64(slice[0x1008:])},
	}
	if !slices.Equal(l, want) || err != api.OK {
		t.Errorf("%s (%v), want %s", briefly(l), err, briefly(want))
	}
	if l, err := rebase.Decode(slice, m, []byte{0x51}); l != nil || err != api.ErrOpcode {
		t.Errorf("%s (%v)", briefly(l), err)
	}
}

func TestEachOpcode(t *testing.T) {
	const begin = "\x11\x21\x10" // at 0x12010
	for _, x := range []struct {
		what, stream string
		at           []uint64
	}{
		{"no bytes", "", nil},
		{"an end alone", "\x00", nil},
		{"a type alone", "\x11", nil},
		{"a place alone", "\x21\x10", nil},
		{"a place ahead of the type", "\x21\x10\x11\x51", []uint64{0x12010}},
		{"no end", begin + "\x51", []uint64{0x12010}},
		{"an end", begin + "\x51\x00", []uint64{0x12010}},
		{"another place", begin + "\x24\x08\x51", []uint64{0x15008}},
		{"a place of two bytes", "\x11\x21\x90\x02\x51", []uint64{0x12110}},
		{"a place further", begin + "\x30\x05\x51", []uint64{0x12015}},
		{"a place nothing further", begin + "\x30\x00\x51", []uint64{0x12010}},
		{"a place further by two bytes", begin + "\x30\x80\x01\x51", []uint64{0x12090}},
		{"further does not look at imm", begin + "\x3F\x05\x51", []uint64{0x12015}},
		{"words further", begin + "\x42\x51", []uint64{0x12020}},
		{"15 words further", begin + "\x4F\x51", []uint64{0x12088}},
		{"no words further", begin + "\x40\x51", []uint64{0x12010}},
		{"three", begin + "\x53", []uint64{0x12010, 0x12018, 0x12020}},
		{"15", begin + "\x5F", row(0x12010, 15, 8)},
		{"none", begin + "\x50", nil},
		{"none, then one", begin + "\x50\x51", []uint64{0x12010}},
		{"three by a number", begin + "\x60\x03", []uint64{0x12010, 0x12018, 0x12020}},
		{"many by a number", begin + "\x60\xC8\x01", row(0x12010, 200, 8)},
		{"none by a number", begin + "\x60\x00\x51", []uint64{0x12010}},
		{"a number's opcode does not look at imm", begin + "\x6F\x01", []uint64{0x12010}},
		{"one, then further", begin + "\x70\x03\x51", []uint64{0x12010, 0x1201B}},
		{"one, then nothing further", begin + "\x70\x00\x51", []uint64{0x12010, 0x12018}},
		{"one, then far further", begin + "\x70\x80\x08\x51", []uint64{0x12010, 0x12418}},
		{"one's opcode does not look at imm", begin + "\x75\x03\x51", []uint64{0x12010, 0x1201B}},
		{"three, behind each further", begin + "\x80\x03\x04\x51", []uint64{0x12010, 0x1201C, 0x12028, 0x12034}},
		{"three, behind each nothing further", begin + "\x80\x03\x00\x51", row(0x12010, 4, 8)},
		{"none, behind each further", begin + "\x80\x00\x04\x51", []uint64{0x12010}},
		{"skips do not look at imm", begin + "\x8E\x02\x01", []uint64{0x12010, 0x12019}},
		{"one behind the other", begin + "\x51\x52\x30\x08\x51\x60\x01", []uint64{0x12010, 0x12018, 0x12020, 0x12030, 0x12038}},
		{"from segment to segment by themselves", "\x11\x21\xF0\x1F\x54", []uint64{0x12FF0, 0x12FF8, 0x13000, 0x13008}},
	} {
		decoded(t, x.what, x.stream, x.at...)
	}
}

// TestAsTheyCome: rebases are neither laid in order, nor told just once.
func TestAsTheyCome(t *testing.T) {
	decoded(t, "back", "\x11\x21\x10\x51\x21\x00\x52\x00", 0x12010, 0x12000, 0x12008)
	decoded(t, "twice", "\x11\x21\x10\x51\x21\x10\x51\x00", 0x12010, 0x12010)
	decoded(t, "such as meet", "\x11\x21\x10\x51\x21\x14\x51\x00", 0x12010, 0x12014)
	decoded(t, "another segment, and back", "\x11\x24\x00\x51\x21\x00\x51\x25\x00\x51", 0x15000, 0x12000, 0x200000)
}

func TestTheEnd(t *testing.T) {
	for imm := range byte(16) {
		for _, behind := range []string{"", "\x51", "\x90", "\x20", "\xFF\xFF", "\x11\x22\x80"} {
			decoded(t, "an end", "\x11\x21\x00\x51"+string([]byte{imm})+behind, 0x12000)
			decoded(t, "an end at first", string([]byte{imm})+behind)
		}
	}
}

func TestTypes(t *testing.T) {
	for imm := range byte(16) {
		for _, op := range []string{"\x50", "\x51", "\x60\x00", "\x60\x01", "\x70\x00", "\x80\x00\x00", "\x80\x01\x00"} {
			for _, begin := range []string{"\x21\x00" + string([]byte{0x10 + imm}), string([]byte{0x10 + imm}) + "\x21\x00", "\x11\x21\x00" + string([]byte{0x10 + imm})} {
				if imm != 1 {
					refused(t, "another type", begin+op, api.ErrOpcode)
					decoded(t, "another one, and back", begin+"\x11\x51", 0x12000)
				} else if strings.Contains(op, "\x00") || op == "\x50" {
					decoded(t, "the type", begin+op+"\x00", wantPlaces(op)...)
				}
			}
			refused(t, "no type", "\x21\x00"+op, api.ErrOpcode)
		}
		// What is no rebase asks for no type.
		decoded(t, "another type, and no rebase", string([]byte{0x10 + imm})+"\x21\x00\x30\x08\x41")
	}
}

// wantPlaces are the places of one opcode at fine's segment 1.
func wantPlaces(op string) []uint64 {
	switch op {
	case "\x70\x00", "\x80\x01\x00":
		return []uint64{0x12000}
	}
	return nil
}

func TestWithoutAPlace(t *testing.T) {
	for _, op := range []string{"\x30\x00", "\x30\x08", "\x40", "\x41", "\x4F", "\x50", "\x51", "\x5F", "\x60\x00", "\x60\x01", "\x70\x00", "\x80\x00\x00", "\x80\x01\x00"} {
		refused(t, "no place, no type", op, api.ErrOpcode)
		refused(t, "no place", "\x11"+op, api.ErrOpcode)
		refused(t, "no place yet", "\x11"+op+"\x21\x00", api.ErrOpcode)
	}
	// A place at the address 0 is one.
	m := laid(api.Segment{Size: 4096, Prot: 3})
	if l, err := checkDecode(t, nil, m, []byte("\x11\x20\x00\x30\x00\x40\x51")); len(l) != 1 || l[0].At != 0 || err != api.OK {
		t.Errorf("at 0: %s (%v)", briefly(l), err)
	}
}

func TestOtherOpcodes(t *testing.T) {
	for b := 0x90; b <= 0xFF; b++ {
		op := string([]byte{byte(b)})
		for _, behind := range []string{"", "\x00", "\x01", "\x80", "\x01\x01\x00", "a\x00"} {
			refused(t, "another opcode", op+behind, api.ErrOpcode)
			refused(t, "another opcode", "\x11\x21\x00\x51"+op+behind, api.ErrOpcode)
		}
	}
}

func TestShort(t *testing.T) {
	const tooFar = "\xFF\xFF\xFF\xFF\xFF\xFF\xFF\xFF\xFF\x02" // 2^64 and more
	const tooLong = "\x80\x80\x80\x80\x80\x80\x80\x80\x80\x80\x00"
	for _, begin := range []string{"", "\x11", "\x11\x21\x00", "\x11\x21\x00\x51", "\x12"} {
		for _, op := range []string{"\x20", "\x21", "\x2F", "\x30", "\x3F", "\x60", "\x70", "\x7F", "\x80", "\x8F", "\x80\x01", "\x80\xFF\x01"} {
			for _, behind := range []string{"", "\x80", "\xFF\xFF", strings.Repeat("\x80", 9), strings.Repeat("\x80", 10), tooFar, tooLong} {
				refused(t, "no number", begin+op+behind, api.ErrShort)
			}
		}
		refused(t, "no second number", begin+"\x80"+tooFar+"\x00", api.ErrShort)
	}
}

// TestLongNumbers: a number need not be the shortest row of bytes that means it, and has up to ten.
func TestLongNumbers(t *testing.T) {
	nothing := strings.Repeat("\x80", 9) + "\x00"
	one := "\x81" + strings.Repeat("\x80", 8) + "\x00"
	decoded(t, "a place", "\x11\x21"+one+"\x51", 0x12001)
	decoded(t, "nothing further", "\x11\x21\x00\x30"+nothing+"\x51", 0x12000)
	decoded(t, "one", "\x11\x21\x00\x60"+one+"\x00", 0x12000)
	decoded(t, "one, further", "\x11\x21\x00\x70"+one+"\x51", 0x12000, 0x12009)
	decoded(t, "one, behind it further", "\x11\x21\x00\x80"+one+one+"\x51", 0x12000, 0x12009)
}

func TestPlaces(t *testing.T) {
	slice, m := fine()
	for imm := range 16 {
		for _, offset := range []uint64{0, 1, 7, 8, 0xFF7, 0xFF8, 0xFF9, 0xFFF, 0x1000, 0x1001, 0x1FFF, 0x2000, 0xFFFF8, 0xFFFFF, 0x100000, 1 << 32, 1 << 63, math.MaxUint64} {
			stream := binary.AppendUvarint([]byte{0x11, byte(0x20 + imm)}, offset)
			for _, behind := range []string{"", "\x50", "\x51", "\x52", "\x30\x01", "\x00"} {
				checkDecode(t, slice, m, append(bytes.Clone(stream), behind...))
			}
		}
	}
	refused(t, "a segment that there is not", "\x28\x00", api.ErrSegment)
	refused(t, "a hole", "\x23\x00", api.ErrSegment)
	refused(t, "a hole, and beyond it", "\x23\x80\x20", api.ErrSegment)
	refused(t, "an offset of just its size", "\x21\x80\x20", api.ErrRange)
	decoded(t, "an offset of just below its size", "\x11\x21\xFF\x1F\x30\x01\x51", 0x13000)
	decoded(t, "a place in what may not be written", "\x11\x20\x00\x21\x00\x51", 0x12000)
}

func TestProt(t *testing.T) {
	for _, x := range []struct {
		what, stream string
	}{
		{"a segment that may not be written", "\x11\x20\x00\x51"},
		{"another one", "\x11\x27\x00\x51"},
		{"across two segments", "\x11\x21\xF9\x1F\x51"},
		{"across two segments, by a byte", "\x11\x21\xFF\x1F\x51"},
		{"across a segment's end", "\x11\x24\xF9\xFF\x3F\x51"},
		{"into a hole", "\x11\x22\xF8\x1F\x52"},
		{"where there is no segment", "\x11\x25\x00\x30\x80\x20\x51"},
		{"ahead of all segments", "\x11\x25\x00\x30\x80\x80\x80\x80\x80\x80\x80\x80\x40\x51"},
		{"the second one", "\x11\x26\xF8\x1F\x52"},
		{"the second one by a number", "\x11\x26\xF8\x1F\x60\x02"},
		{"one", "\x11\x20\x00\x70\x00"},
		{"the second one behind a skip", "\x11\x26\xE9\x1F\x80\x02\x08"},
	} {
		refused(t, x.what, x.stream, api.ErrProt)
	}
	decoded(t, "the last word", "\x11\x21\xF8\x1F\x51", 0x12FF8)
	decoded(t, "the last word of all that may be written", "\x11\x26\xF8\x1F\x51", 0x300FF8)
	decoded(t, "behind which there is nothing", "\x11\x26\xF8\x1F\x51\x30\x08\x41", 0x300FF8)
	for prot := -1; prot <= 9; prot++ {
		m := laid(api.Segment{Size: 4096, FileSize: 1, Prot: prot})
		want := api.ErrProt
		if prot == 2 || prot == 3 || prot == 6 || prot == 7 {
			want = api.OK
		}
		if _, err := checkDecode(t, nil, m, []byte("\x11\x20\x00\x51")); err != want {
			t.Errorf("of the protection %d: %v, want %v", prot, err, want)
		}
	}
}

func TestBeyond(t *testing.T) {
	const most = "\xFF\xFF\xFF\xFF\xFF\xFF\xFF\xFF\xFF\x01" // 2^64 - 1
	refused(t, "further", "\x21\x00\x30"+most, api.ErrRange)
	refused(t, "further twice", "\x21\x00\x30\x80\x80\x80\x80\x80\x80\x80\x80\x80\x01\x30\x80\x80\x80\x80\x80\x80\x80\x80\x80\x01", api.ErrRange)
	refused(t, "further behind one", "\x11\x21\x00\x70"+most, api.ErrRange)
	refused(t, "a skip", "\x11\x21\x00\x80\x02"+most, api.ErrRange)
	refused(t, "a skip behind the last one", "\x11\x21\x00\x80\x01"+most, api.ErrRange)
	decoded(t, "a skip behind none", "\x11\x21\x00\x80\x00"+most+"\x51", 0x12000)
	// The place is so far ahead of 2^64 - 1 then; nothing is wrong till it is beyond that.
	for _, left := range []uint64{0, 7, 8, 15, 16} {
		stream := string(binary.AppendUvarint([]byte("\x21\x00\x30"), math.MaxUint64-0x12000-left))
		decoded(t, "just within", stream)
		decoded(t, "and none further", stream+"\x40")
		for _, n := range []uint64{left, left + 1} {
			want := api.OK
			if n > left {
				want = api.ErrRange
			}
			refused(t, "and further", string(binary.AppendUvarint([]byte(stream+"\x30"), n)), want)
		}
		for words := range uint64(4) {
			want := api.OK
			if 8*words > left {
				want = api.ErrRange
			}
			refused(t, "and words further", stream+string([]byte{byte(0x40 + words)}), want)
		}
	}
}

// TestBeyondBehindARebase: of segments up to 2^64, which no image that may be has.
func TestBeyondBehindARebase(t *testing.T) {
	m := laid(api.Segment{Addr: 1<<64 - 32, Size: 32, Prot: 3})
	for _, x := range []struct {
		stream string
		many   int
		want   api.Errno
	}{
		{"\x11\x20\x10\x51", 1, api.OK},
		{"\x11\x20\x10\x70\x07", 1, api.OK},
		{"\x11\x20\x10\x70\x08", 0, api.ErrRange},
		{"\x11\x20\x0F\x70\x08", 1, api.OK},
		{"\x11\x20\x18\x51", 0, api.ErrRange},
		{"\x11\x20\x18\x60\x01", 0, api.ErrRange},
		{"\x11\x20\x18\x80\x01\x00", 0, api.ErrRange},
		{"\x11\x20\x17\x51", 1, api.OK},
		{"\x11\x20\x19\x51", 0, api.ErrProt},
		{"\x11\x20\x00\x53", 3, api.OK},
		{"\x11\x20\x00\x54", 0, api.ErrRange},
		{"\x11\x20\x07\x54", 0, api.ErrProt},
	} {
		if l, err := checkDecode(t, nil, m, []byte(x.stream)); len(l) != x.many || err != x.want {
			t.Errorf("% x: %s (%v), want %d (%v)", x.stream, briefly(l), err, x.many, x.want)
		}
	}
	// A segment's addresses don't go round at 2^64; its places do.
	m.Segments[0].Size = 64
	if _, err := checkDecode(t, nil, m, []byte("\x11\x20\x20\x51")); err != api.ErrProt {
		t.Errorf("a place that goes round: %v", err)
	}
	m.Segments = append(m.Segments, api.Segment{Size: 4096, Prot: 3})
	if l, err := checkDecode(t, nil, m, []byte("\x11\x20\x28\x51")); len(l) != 1 || l[0].At != 8 || err != api.OK {
		t.Errorf("a place that goes round, into a segment: %s (%v)", briefly(l), err)
	}
}

func TestMany(t *testing.T) {
	// 20000 words are 0x27100 bytes: segment 4 has room for them.
	const begin = "\x11\x24\x00"
	const all = "\x60\xA0\x9C\x01" // 20000
	const few = "\x60\x9F\x9C\x01" // 19999
	const most = "\xFF\xFF\xFF\xFF\xFF\xFF\xFF\xFF\xFF\x01"
	decoded(t, "as many as can be", begin+all, row(0x15000, 20000, 8)...)
	decoded(t, "as many, and none", begin+all+"\x50\x60\x00\x80\x00\x01\x30\x01\x41\x12\x20\x00", row(0x15000, 20000, 8)...)
	decoded(t, "one fewer, and one", begin+few+"\x70\x00\x00", row(0x15000, 20000, 8)...)
	decoded(t, "with skips", begin+"\x80\xA0\x9C\x01\x01", row(0x15000, 20000, 9)...)
	for what, stream := range map[string]string{
		"one more by a number":           "\x60\xA1\x9C\x01",
		"one more by skips":              "\x80\xA1\x9C\x01\x00",
		"as many, and one":               all + "\x51",
		"as many, and 15":                all + "\x5F",
		"as many, and one by a number":   all + "\x60\x01",
		"as many, and one, then further": all + "\x70\x00",
		"as many, and one with a skip":   all + "\x80\x01\x00",
		"one fewer, and two":             few + "\x52",
		"one fewer, and 2^64 - 1":        few + "\x60" + most,
		"as many, and 2^64 - 1":          all + "\x80" + most + "\x00",
		"2^64 - 1":                       "\x60" + most,
		"2^64 - 1 by skips":              "\x80" + most + "\x08",
		"2^63":                           "\x60\x80\x80\x80\x80\x80\x80\x80\x80\x80\x01",
		"2^32":                           "\x60\x80\x80\x80\x80\x10",
	} {
		refused(t, what, begin+stream, api.ErrMany)
	}
	// The same places all over count, too.
	again := strings.Repeat("\x24\x00\x60\xE8\x07", 20) // 20 times 1000
	decoded(t, "the same again", "\x11"+again, slices.Repeat(row(0x15000, 1000, 8), 20)...)
	refused(t, "the same again, and one", "\x11"+again+"\x24\x00\x51", api.ErrMany)
}

// TestWhichErrorIsTold: where several apply to one opcode.
func TestWhichErrorIsTold(t *testing.T) {
	const most = "\xFF\xFF\xFF\xFF\xFF\xFF\xFF\xFF\xFF\x01"
	for _, x := range []struct {
		what, stream string
		want         api.Errno
	}{
		{"no number, and no place", "\x30", api.ErrShort},
		{"no number, and no type", "\x21\x00\x60", api.ErrShort},
		{"no second number, no place, too many", "\x80" + most, api.ErrShort},
		{"no number, and no segment", "\x2F", api.ErrShort},
		{"no number, and a hole", "\x23\x80", api.ErrShort},
		{"no place, and too many", "\x11\x60" + most, api.ErrOpcode},
		{"another type, and too many", "\x12\x21\x00\x60" + most, api.ErrOpcode},
		{"another type, and not to be written", "\x12\x20\x00\x51", api.ErrOpcode},
		{"another type, and beyond", "\x12\x21\x00\x70" + most, api.ErrOpcode},
		{"no segment, and beyond it", "\x2F" + most, api.ErrSegment},
		{"too many, and not to be written", "\x11\x20\x00\x60" + most, api.ErrMany},
		{"too many, and beyond", "\x11\x21\x00\x80" + most + most, api.ErrMany},
		{"too many, the first one of which may not be", "\x11\x21\xFF\x1F\x60\xA1\x9C\x01", api.ErrMany},
		{"not to be written, and beyond", "\x11\x20\x00\x70" + most, api.ErrProt},
		{"the first may be, and is beyond", "\x11\x21\xF8\x1F\x80\x02" + most, api.ErrRange},
		{"the first may be, the second not", "\x11\x26\xF8\x1F\x80\x02\x00", api.ErrProt},
		{"the first error of all", "\x11\x20\x00\x51\x90", api.ErrProt},
		{"the first error of all, the other way", "\x90\x11\x20\x00\x51", api.ErrOpcode},
		{"behind the end", "\x11\x21\x00\x51\x00\x90", api.OK},
		{"what is short is told when it is come to", "\x11\x20\x00\x51\x30", api.ErrProt},
	} {
		refused(t, x.what, x.stream, x.want)
	}
}

func TestTargets(t *testing.T) {
	slice, m := fine()
	for _, x := range []struct {
		what, stream string
		slice        []byte
		want         []uint64
	}{
		{"of the file", "\x11\x22\x05\x51", slice, []uint64{binary.LittleEndian.Uint64(slice[0x2005:])}},
		{"across the file's end", "\x11\x21\xA0\x02\x51", slice, []uint64{binary.LittleEndian.Uint64(slice[0x1120:]) & 0xFFFFFF}},
		{"behind the file's end", "\x11\x21\xA3\x02\x51", slice, []uint64{0}},
		{"without bytes in the file", "\x11\x24\x00\x51", slice, []uint64{0}},
		{"of a slice that ends just there", "\x11\x21\x00\x51", slice[:0x1123], []uint64{binary.LittleEndian.Uint64(slice[0x1000:])}},
		{"of a slice that ends ahead", "\x11\x21\x00\x51", slice[:0x1122], []uint64{0}},
		{"of no slice", "\x11\x21\x00\x52", nil, []uint64{0, 0}},
	} {
		l, err := checkDecode(t, x.slice, m, []byte(x.stream))
		var got []uint64
		for _, f := range l {
			got = append(got, f.Target)
		}
		if !slices.Equal(got, x.want) || err != api.OK {
			t.Errorf("%s: %#x (%v), want %#x", x.what, got, err, x.want)
		}
	}
	// All bits of a word are told.
	for bit := range 64 {
		word := binary.LittleEndian.AppendUint64(nil, 1<<bit)
		m := laid(api.Segment{Size: 4096, FileSize: 8, Prot: 3})
		if l, err := checkDecode(t, word, m, []byte("\x11\x20\x00\x51")); len(l) != 1 || l[0].Target != 1<<bit || err != api.OK {
			t.Errorf("bit %d: %s (%v)", bit, briefly(l), err)
		}
	}
}

// TestNothingIsKept: neither what was handed in, nor what was answered.
func TestNothingIsKept(t *testing.T) {
	slice, m := fine()
	_, before := fine()
	stream := []byte("\x11\x21\x00\x52\x24\x00\x53\x00")
	first, _ := rebase.Decode(slice, m, stream)
	want := slices.Clone(first)
	second, _ := rebase.Decode(slice, m, stream)
	clear(second)
	if !slices.Equal(first, want) {
		t.Error("two answers share memory")
	}
	clear(slice)
	clear(stream)
	if !slices.Equal(first, want) {
		t.Error("an answer shares memory with what was handed in")
	}
	if !reflect.DeepEqual(m, before) {
		t.Error("the image was changed")
	}
}
