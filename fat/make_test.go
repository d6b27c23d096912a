package fat_test

import (
	"bytes"
	"math"
	"slices"
	"testing"

	"clevis/api"
	"clevis/fat"
)

// P3.2 (Make)

// wantMade is what parts become, where none is refused.
func wantMade(wide bool, l []api.Member) []byte {
	var rows []row
	end := behind(wide, len(l))
	for _, m := range l {
		for end%(1<<m.Align) != 0 {
			end++
		}
		rows = append(rows, row{cpu: m.Cpu, sub: m.Sub, off: end, size: uint64(len(m.Bytes)), align: uint32(m.Align)})
		end += uint64(len(m.Bytes))
	}
	b := append(head(wide, uint32(len(l)), rows...), make([]byte, end-behind(wide, len(l)))...)
	for i, r := range rows {
		copy(b[r.off:], l[i].Bytes)
	}
	return b
}

// made makes a file of parts, which are to stay as they are, and holds it against what is wanted, and its slices against the parts.
func made(t *testing.T, wide bool, l ...api.Member) []byte {
	t.Helper()
	before := wantMade(wide, l)
	b, err := fat.Make(wide, l...)
	if err != api.OK || !bytes.Equal(b, before) {
		t.Fatalf("Make of %d parts, wide %v: %d bytes (%v), want %d", len(l), wide, len(b), err, len(before))
	}
	if after := wantMade(wide, l); !bytes.Equal(after, before) {
		t.Fatalf("the parts are other ones now")
	}
	parts(t, b, l)
	return b
}

// parts asks that the slices of a file are the parts that it was made of (P3.3).
func parts(t *testing.T, b []byte, l []api.Member) {
	t.Helper()
	told, err := fat.Slices(b)
	if err != api.OK || len(told) != len(l) {
		t.Fatalf("%d slices of %d parts (%v)", len(told), len(l), err)
	}
	for i, s := range told {
		m := l[i]
		if s.Cpu != m.Cpu || s.Sub != m.Sub || s.Align != m.Align || !bytes.Equal(b[s.Span.Off:s.Span.Off+s.Span.Size], m.Bytes) {
			t.Errorf("slice %d is %v", i, s)
		}
	}
}

func unmade(t *testing.T, what string, want api.Errno, l ...api.Member) {
	t.Helper()
	for _, wide := range []bool{false, true} {
		if b, err := fat.Make(wide, l...); b != nil || err != want {
			t.Errorf("%s, wide %v: %d bytes (%v), want %v", what, wide, len(b), err, want)
		}
	}
}

func TestMakeByItsBytes(t *testing.T) {
	b := made(t, false, api.Member{Cpu: api.Cpu, Sub: 0x80000002, Align: 2, Bytes: []byte("one")}, api.Member{Cpu: 7, Sub: 3, Align: 4, Bytes: []byte("two!")})
	if want := []byte{
		0xCA, 0xFE, 0xBA, 0xBE, 0, 0, 0, 2,
		1, 0, 0, 0x0C, 0x80, 0, 0, 2, 0, 0, 0, 48, 0, 0, 0, 3, 0, 0, 0, 2,
		0, 0, 0, 7, 0, 0, 0, 3, 0, 0, 0, 64, 0, 0, 0, 4, 0, 0, 0, 4,
		'o', 'n', 'e', 0, 0, 0, 0, 0, 0, 0, 0, 0, 0, 0, 0, 0,
		't', 'w', 'o', '!',
	}; !bytes.Equal(b, want) {
		t.Errorf("% x, want % x", b, want)
	}
	b = made(t, true, api.Member{Cpu: 0x01020304, Sub: 0x05060708, Align: 4, Bytes: []byte{9, 8}})
	if want := []byte{
		0xCA, 0xFE, 0xBA, 0xBF, 0, 0, 0, 1,
		1, 2, 3, 4, 5, 6, 7, 8, 0, 0, 0, 0, 0, 0, 0, 48, 0, 0, 0, 0, 0, 0, 0, 2, 0, 0, 0, 4, 0, 0, 0, 0,
		0, 0, 0, 0, 0, 0, 0, 0, 9, 8,
	}; !bytes.Equal(b, want) {
		t.Errorf("wide: % x, want % x", b, want)
	}
}

func TestEachAlign(t *testing.T) {
	for _, wide := range []bool{false, true} {
		for align := range 16 {
			for before := range 40 {
				made(t, wide, api.Member{Cpu: 1, Bytes: bytes.Repeat([]byte{7}, before)}, api.Member{Cpu: 2, Align: align, Bytes: []byte("part")}, api.Member{Cpu: 3, Bytes: []byte{1}})
			}
		}
	}
}

func TestPartsOfNoBytes(t *testing.T) {
	for _, wide := range []bool{false, true} {
		b := made(t, wide, api.Member{})
		if len(b) != int(behind(wide, 1)) {
			t.Errorf("a part of no bytes: %d bytes in all", len(b))
		}
		b = made(t, wide, api.Member{Align: 15})
		if len(b) != 32768 {
			t.Errorf("a part of no bytes, of the align 15: %d bytes in all", len(b))
		}
		b = made(t, wide, api.Member{Cpu: 1, Bytes: []byte{5}}, api.Member{Cpu: 2, Align: 8}, api.Member{Cpu: 3, Align: 8}, api.Member{Cpu: 4, Bytes: []byte{6}}, api.Member{Cpu: 5, Align: 9, Bytes: []byte{}})
		if len(b) != 512 {
			t.Errorf("some of no bytes: %d bytes in all", len(b))
		}
	}
}

func TestThirtyTwoParts(t *testing.T) {
	var l []api.Member
	for i := range 32 {
		l = append(l, api.Member{Cpu: uint32(i / 4), Sub: uint32(i%4) | 0xAB000000, Align: i % 16, Bytes: bytes.Repeat([]byte{byte(i)}, i*3)})
	}
	made(t, false, l...)
	made(t, true, l...)
	one := append(slices.Clone(l), api.Member{Cpu: 99})
	unmade(t, "33 parts", api.ErrMany, one...)
	one[32].Align = 16
	unmade(t, "33 parts, one of a wrong align", api.ErrArg, one...)
	unmade(t, "33 parts, two of one architecture", api.ErrMany, append(slices.Clone(l), l[0])...)
	unmade(t, "2000 parts", api.ErrMany, make([]api.Member, 2000)...)
}

func TestMakeOfWrongArguments(t *testing.T) {
	unmade(t, "no part", api.ErrArg)
	unmade(t, "an empty list", api.ErrArg, []api.Member{}...)
	for _, align := range []int{-1, -16, math.MinInt, math.MinInt32, 16, 17, 31, 32, 63, 64, 1 << 32, math.MaxInt} {
		bad := api.Member{Cpu: 1, Align: align}
		good := api.Member{Cpu: 2, Bytes: []byte("x")}
		unmade(t, "a wrong align", api.ErrArg, bad)
		unmade(t, "a wrong align behind", api.ErrArg, good, bad)
		unmade(t, "a wrong align ahead", api.ErrArg, bad, good)
		unmade(t, "a wrong align, and two of one architecture", api.ErrArg, good, good, bad)
		unmade(t, "a wrong align, and too many bytes", api.ErrArg, api.Member{Bytes: make([]byte, api.MaxFile)}, bad)
	}
}

func TestMakeOfTooManyBytes(t *testing.T) {
	for _, wide := range []bool{false, true} {
		room := api.MaxFile - int(behind(wide, 1))
		if b := made(t, wide, api.Member{Bytes: bytes.Repeat([]byte{3}, room)}); len(b) != api.MaxFile {
			t.Errorf("%d bytes", len(b))
		}
		if b, err := fat.Make(wide, api.Member{Bytes: make([]byte, room+1)}); b != nil || err != api.ErrMany {
			t.Errorf("one byte more: %d bytes (%v)", len(b), err)
		}
		// The last part of no bytes begins just where a file may end, and behind that.
		room -= int(behind(wide, 1)) - 8
		last := api.Member{Cpu: 2, Align: 15}
		if b := made(t, wide, api.Member{Bytes: make([]byte, room)}, last); len(b) != api.MaxFile {
			t.Errorf("%d bytes", len(b))
		}
		if b, err := fat.Make(wide, api.Member{Bytes: make([]byte, room+1)}, last); b != nil || err != api.ErrMany {
			t.Errorf("a place behind MaxFile: %d bytes (%v)", len(b), err)
		}
	}
	half := api.Member{Bytes: make([]byte, api.MaxFile/2)}
	unmade(t, "two halves and the entries, of one architecture", api.ErrMany, half, half)
	unmade(t, "a great one", api.ErrMany, api.Member{Bytes: make([]byte, 1<<26)})
	great := make([]byte, 1<<26)
	var l []api.Member
	for i := range uint32(32) {
		l = append(l, api.Member{Cpu: i, Align: 15, Bytes: great})
	}
	unmade(t, "32 great ones", api.ErrMany, l...)
}

func TestMakeOfTwoOfOneArchitecture(t *testing.T) {
	a := api.Member{Cpu: api.Cpu, Sub: 2, Bytes: []byte("a")}
	for _, sub := range []uint32{2, 0x80000002, 0x01000002, 0xFF000002} {
		b := api.Member{Cpu: api.Cpu, Sub: sub, Align: 3}
		unmade(t, "two", api.ErrTwice, a, b)
		unmade(t, "two", api.ErrTwice, b, a)
		unmade(t, "two, one between", api.ErrTwice, a, api.Member{Cpu: 1}, b)
	}
	for _, wide := range []bool{false, true} {
		for _, sub := range []uint32{0, 1, 3, 0x00800002, 0x00010002, 0x80000000} {
			made(t, wide, a, api.Member{Cpu: api.Cpu, Sub: sub})
		}
		made(t, wide, a, api.Member{Cpu: api.Cpu + 1, Sub: 2})
		made(t, wide, a, api.Member{Cpu: 0x0C, Sub: 2})
	}
}

func TestWhatIsMadeIsNewMemory(t *testing.T) {
	l := []api.Member{{Cpu: 1, Bytes: []byte("first")}, {Cpu: 2, Align: 3, Bytes: []byte("second")}}
	b, _ := fat.Make(false, l...)
	want := bytes.Clone(b)
	clear(l[0].Bytes)
	if !bytes.Equal(b, want) {
		t.Errorf("what was made changes with a part")
	}
	clear(b)
	if string(l[1].Bytes) != "second" {
		t.Errorf("a part changes with what was made: %q", l[1].Bytes)
	}
	copy(l[0].Bytes, "first")
	if again, _ := fat.Make(false, l...); !bytes.Equal(again, want) {
		t.Errorf("what is made then is another one")
	}
}
