package rebase_test

import (
	"bytes"
	"math"
	"reflect"
	"slices"
	"strings"
	"testing"

	"clevis/api"
	"clevis/rebase"
)

// P13.2 (Make)

// made asks that Make of fine answers that stream.
func made(t *testing.T, what, want string, l ...api.Fixup) {
	t.Helper()
	_, m := fine()
	if b, err := checkMake(t, m, l...); string(b) != want || err != api.OK {
		t.Errorf("%s: %s (%v), want %s", what, brief(b), err, brief([]byte(want)))
	}
}

// unmade asks that Make of fine answers that error.
func unmade(t *testing.T, what string, want api.Errno, l ...api.Fixup) {
	t.Helper()
	_, m := fine()
	if _, err := checkMake(t, m, l...); err != want {
		t.Errorf("%s: %v, want %v", what, err, want)
	}
}

func TestStreams(t *testing.T) {
	for _, x := range []struct {
		what, want string
		at         []uint64
	}{
		{"none", "\x11\x00", nil},
		{"one", "\x11\x21\x00\x51\x00", []uint64{0x12000}},
		{"one further in", "\x11\x21\x05\x51\x00", []uint64{0x12005}},
		{"one far in", "\x11\x21\xF8\x1F\x51\x00", []uint64{0x12FF8}},
		{"one in the last segment that has some", "\x11\x26\x00\x51\x00", []uint64{0x300000}},
		{"two in a row", "\x11\x21\x00\x52\x00", []uint64{0x12000, 0x12008}},
		{"two with a gap", "\x11\x21\x00\x51\x30\x08\x51\x00", []uint64{0x12000, 0x12010}},
		{"two with a gap of a byte", "\x11\x21\x00\x51\x30\x01\x51\x00", []uint64{0x12000, 0x12009}},
		{"two with a gap of 127 bytes", "\x11\x21\x00\x51\x30\x7F\x51\x00", []uint64{0x12000, 0x12087}},
		{"two with a gap of 128 bytes", "\x11\x21\x00\x51\x30\x80\x01\x51\x00", []uint64{0x12000, 0x12088}},
		{"rows with gaps", "\x11\x21\x08\x52\x30\x08\x53\x30\x10\x51\x00", []uint64{0x12008, 0x12010, 0x12020, 0x12028, 0x12030, 0x12048}},
		{"two segments", "\x11\x21\x00\x51\x24\x00\x51\x00", []uint64{0x12000, 0x15000}},
		{"three segments", "\x11\x21\x00\x51\x22\x00\x51\x25\x80\x01\x51\x00", []uint64{0x12000, 0x13000, 0x200080}},
		{"a row that goes on in the next segment", "\x11\x21\xF0\x1F\x52\x22\x00\x52\x00", []uint64{0x12FF0, 0x12FF8, 0x13000, 0x13008}},
		{"the gap is counted anew in each segment", "\x11\x21\x00\x51\x30\x08\x51\x22\x00\x51\x30\x08\x51\x00", []uint64{0x12000, 0x12010, 0x13000, 0x13010}},
	} {
		made(t, x.what, x.want, places(x.at...)...)
		// Nothing hangs on in which order they are handed in, nor on how often.
		l := places(x.at...)
		slices.Reverse(l)
		made(t, x.what+", the other way round", x.want, l...)
		made(t, x.what+", twice", x.want, append(l, l...)...)
	}
}

func TestRuns(t *testing.T) {
	for n, want := range map[int]string{
		1: "\x51", 2: "\x52", 14: "\x5E", 15: "\x5F", 16: "\x60\x10", 17: "\x60\x11", 127: "\x60\x7F", 128: "\x60\x80\x01", 255: "\x60\xFF\x01", 16384: "\x60\x80\x80\x01", 20000: "\x60\xA0\x9C\x01",
	} {
		made(t, "a run", "\x11\x24\x00"+want+"\x00", places(row(0x15000, n, 8)...)...)
	}
	_, m := fine()
	for n := range 300 {
		checkMake(t, m, places(row(0x15003, n, 8)...)...)
		checkMake(t, m, places(append(row(0x15003, n, 8), row(0x20000, n, 8)...)...)...)
		checkMake(t, m, places(row(0x15003, n, 9)...)...)
	}
	// A run from one segment to the next is two.
	for n := range 40 {
		checkMake(t, m, places(row(0x13000-uint64(n)*8, 40, 8)...)...)
	}
}

// TestTargetsHaveNoSay: the stream is one of places.
func TestTargetsHaveNoSay(t *testing.T) {
	for _, target := range []uint64{0, 1, 0x12000, 1 << 36, 1 << 55, 1<<56 + 7, 1 << 63, math.MaxUint64} {
		made(t, "a target", "\x11\x21\x00\x52\x00", to(0x12000, target), to(0x12008, ^target))
	}
}

func TestNoRebases(t *testing.T) {
	fine := to(0x12000, 5)
	for _, x := range []struct {
		what string
		f    api.Fixup
	}{
		{"nothing", api.Fixup{}},
		{"of no kind", api.Fixup{At: 0x12010, Target: 5}},
		{"of another kind", api.Fixup{At: 0x12010, Kind: 3}},
		{"of a kind below 0", api.Fixup{At: 0x12010, Kind: -1}},
		{"a bind", api.Fixup{At: 0x12010, Kind: api.FixBind, Ordinal: 1, Symbol: "_a"}},
		{"a bind that may not be", api.Fixup{At: 0x12010, Kind: api.FixBind}},
		{"with an ordinal", api.Fixup{At: 0x12010, Kind: api.FixRebase, Ordinal: -1}},
		{"with a symbol", api.Fixup{At: 0x12010, Kind: api.FixRebase, Symbol: "a"}},
		{"with an addend", api.Fixup{At: 0x12010, Kind: api.FixRebase, Addend: 1}},
		{"a weak import", api.Fixup{At: 0x12010, Kind: api.FixRebase, Weak: true}},
	} {
		unmade(t, x.what, api.ErrArg, x.f)
		unmade(t, x.what+" behind one", api.ErrArg, fine, x.f)
		unmade(t, x.what+" ahead of one", api.ErrArg, x.f, fine)
	}
}

func TestMeeting(t *testing.T) {
	for d := range uint64(20) {
		want := api.ErrArg
		if d >= 8 {
			want = api.OK
		}
		unmade(t, "two", want, to(0x12000, 1), to(0x12000+d, 2))
		unmade(t, "two the other way round", want, to(0x12000+d, 1), to(0x12000, 2))
		unmade(t, "two far apart in the list", want, to(0x12100, 1), to(0x12200, 1), to(0x12100-d, 2))
	}
	unmade(t, "two across segments", api.ErrArg, to(0x12FFC, 1), to(0x13000, 1))
	unmade(t, "one twice", api.OK, to(0x12000, 1), to(0x12000, 1))
}

func TestMakeMany(t *testing.T) {
	l := places(row(0x15000, 20001, 8)...)
	made(t, "as many as can be", "\x11\x24\x00\x60\xA0\x9C\x01\x00", l[:20000]...)
	made(t, "as many as can be, some twice", "\x11\x24\x00\x60\xA0\x9C\x01\x00", append(l[:20000:20000], l[:100]...)...)
	unmade(t, "one more", api.ErrMany, l...)
	unmade(t, "one more, some of which may not be written", api.ErrMany, append(l[:20000:20000], to(0x10000, 1))...)
	unmade(t, "one more, that meets", api.ErrArg, append(l[:20000:20000], to(0x15004, 1))...)
	unmade(t, "many more", api.ErrMany, places(row(0x15000, 60000, 9)...)...)
	apart := places(row(0x15000, 20001, 9)...)
	unmade(t, "one more, all apart", api.ErrMany, apart...)
	if b, err := checkMake(t, laid(api.Segment{Size: 1 << 20, Prot: 3}), places(row(0, 20000, 9)...)...); len(b) != 20000*3+2 || err != api.OK {
		t.Errorf("all apart: %s (%v)", brief(b), err)
	}
}

func TestMakeProt(t *testing.T) {
	for _, at := range []uint64{0, 0xFFFF, 0x10000, 0x11FF8, 0x11FFF, 0x12FF9, 0x12FFF, 0x13FF9, 0x14000, 0x14FFF, 0x114FF9, 0x115000, 0x200FF9, 0x300FF9, 0x301000, 0x302000, 1 << 47, 1 << 63, math.MaxUint64 - 7, math.MaxUint64} {
		unmade(t, "not to be written", api.ErrProt, to(at, 1))
		unmade(t, "not to be written, beside one that is", api.ErrProt, to(0x12100, 1), to(at, 1))
	}
	for _, at := range []uint64{0x12000, 0x12FF8, 0x13000, 0x13FF8, 0x15000, 0x114FF8, 0x200000, 0x200FF8, 0x300000, 0x300FF8} {
		unmade(t, "to be written", api.OK, to(at, 1))
	}
	for prot := -1; prot <= 9; prot++ {
		want := api.ErrProt
		if prot == 2 || prot == 3 || prot == 6 || prot == 7 {
			want = api.OK
		}
		if _, err := checkMake(t, laid(api.Segment{Size: 4096, FileSize: 1, Prot: prot}), to(8, 1)); err != want {
			t.Errorf("of the protection %d: %v, want %v", prot, err, want)
		}
	}
	if _, err := checkMake(t, api.Image{}, to(8, 1)); err != api.ErrProt {
		t.Errorf("of no segments: %v", err)
	}
	if b, err := checkMake(t, api.Image{}); string(b) != "\x11\x00" || err != api.OK {
		t.Errorf("nothing, of no segments: %s (%v)", brief(b), err)
	}
}

func TestWhichErrorMakeTells(t *testing.T) {
	bind := api.Fixup{At: 0x10000, Kind: api.FixBind, Ordinal: 1, Symbol: "_a"}
	unmade(t, "no rebase, and not to be written", api.ErrArg, bind, to(0x10010, 1))
	unmade(t, "two that meet, and are not to be written", api.ErrArg, to(0x10000, 1), to(0x10004, 1))
	unmade(t, "no rebase, and too many", api.ErrArg, append(places(row(0x15000, 20001, 8)...), bind)...)
	unmade(t, "too many, and not to be written", api.ErrMany, places(row(0x10000, 20001, 8)...)...)
}

// sixteen are segments of all numbers that have room in an opcode, and of some more.
func sixteen(more int) api.Image {
	var m api.Image
	for i := range 16 + more {
		m.Segments = append(m.Segments, api.Segment{Name: strings.Repeat("s", i+1), Addr: uint64(i) * 4096, Size: 4096, Prot: 3})
	}
	return m
}

func TestEachSegment(t *testing.T) {
	m := sixteen(2)
	want := []byte{0x11}
	for i := range 16 {
		at := uint64(i)*4096 + 3
		stream := []byte{0x11, byte(0x20 + i), 3, 0x51, 0}
		if b, err := checkMake(t, m, to(at, 1)); !bytes.Equal(b, stream) || err != api.OK {
			t.Errorf("segment %d: %s (%v)", i, brief(b), err)
		}
		want = append(want, byte(0x20+i), 3, 0x51)
	}
	want = append(want, 0)
	if b, err := checkMake(t, m, places(row(3, 16, 4096)...)...); !bytes.Equal(b, want) || err != api.OK {
		t.Errorf("all segments: %s (%v)", brief(b), err)
	}
	// A number that has no room in an opcode can't be told: a stream of it would be another one's.
	for i := uint64(16); i < 18; i++ {
		if b, err := rebase.Make(m, to(3, 1), to(i*4096, 1)); b != nil || err != api.ErrMany {
			t.Errorf("segment %d: %s (%v)", i, brief(b), err)
		}
	}
}

// TestSegmentsThatMeet: of an image that may not be an address's segment is its first one, which may be one that was ahead.
func TestSegmentsThatMeet(t *testing.T) {
	m := laid(api.Segment{Addr: 0x1010, Size: 0x10, Prot: 3}, api.Segment{Addr: 0x1000, Size: 0x1000, Prot: 3})
	for _, x := range []struct {
		want string
		at   []uint64
	}{
		{"\x11\x21\x00\x52\x20\x00\x52\x21\x20\x52\x00", row(0x1000, 6, 8)},
		{"\x11\x21\x08\x51\x30\x18\x51\x00", []uint64{0x1008, 0x1028}},
		{"\x11\x20\x00\x51\x21\x20\x51\x00", []uint64{0x1010, 0x1020}},
	} {
		if b, err := checkMake(t, m, places(x.at...)...); string(b) != x.want || err != api.OK {
			t.Errorf("%#x: %s (%v), want %s", x.at, brief(b), err, brief([]byte(x.want)))
		}
	}
	// The first one's end is an end, though another one goes on.
	if _, err := checkMake(t, m, to(0x101C, 1)); err != api.ErrProt {
		t.Errorf("across the first one's end: %v", err)
	}
}

// TestMakeKeepsNothing: neither what was handed in, nor what was answered.
func TestMakeKeepsNothing(t *testing.T) {
	_, m := fine()
	_, before := fine()
	l := places(0x12008, 0x12000, 0x15000)
	first, _ := rebase.Make(m, l...)
	want := bytes.Clone(first)
	second, _ := rebase.Make(m, l...)
	clear(second)
	clear(l)
	if !bytes.Equal(first, want) {
		t.Error("an answer shares memory")
	}
	if !reflect.DeepEqual(m, before) {
		t.Error("the image was changed")
	}
}
