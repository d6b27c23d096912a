package fat_test

import (
	"slices"
	"testing"

	"clevis/api"
	"clevis/fat"
)

// P3.1 (Pick, Slice)

// arm is a slice of api.Cpu, told apart by where it stands.
func arm(sub uint32, off uint64) api.Slice {
	return api.Slice{Cpu: api.Cpu, Sub: sub, Span: api.Span{Off: off, Size: off + 1}, Align: int(off % 16)}
}

func TestPick(t *testing.T) {
	other := api.Slice{Cpu: 0x01000007, Sub: 0, Span: api.Span{Off: 77}}
	otherToo := api.Slice{Cpu: 0x0000000C, Sub: 2, Span: api.Span{Off: 78}}
	for _, x := range []struct {
		l     []api.Slice
		plain int // the place of what Arm64 takes; below 0: none
		e     int
	}{
		{nil, -1, -1},
		{[]api.Slice{}, -1, -1},
		{[]api.Slice{other, otherToo}, -1, -1},
		{[]api.Slice{arm(0, 1)}, 0, 0},
		{[]api.Slice{arm(2, 1)}, -1, 0},
		{[]api.Slice{arm(1, 1)}, -1, -1},
		{[]api.Slice{arm(3, 1), arm(0x00010000, 2), arm(0x00800002, 2)}, -1, -1},
		{[]api.Slice{arm(0, 1), arm(2, 2)}, 0, 1},
		{[]api.Slice{arm(2, 1), arm(0, 2)}, 1, 0},
		{[]api.Slice{other, arm(0, 1), otherToo, arm(2, 2)}, 1, 3},
		{[]api.Slice{arm(0x80000000, 1), arm(0x80000002, 2)}, 0, 1},
		{[]api.Slice{arm(0xFF000000, 1)}, 0, 0},
		{[]api.Slice{arm(0x01000002, 1)}, -1, 0},
		{[]api.Slice{arm(1, 0), arm(0, 1), arm(0, 2)}, 1, 1},
		{[]api.Slice{arm(0, 1), arm(2, 2), arm(2, 3), arm(0x80000002, 4)}, 0, 1},
	} {
		for arch, i := range map[api.Arch]int{api.Arm64: x.plain, api.Arm64e: x.e} {
			s, err := fat.Pick(x.l, arch)
			if i < 0 && (err != api.ErrArch || s != api.Slice{}) || i >= 0 && (err != api.OK || s != x.l[i]) {
				t.Errorf("Pick of %v, arch %d: %v (%v), want the one at %d", x.l, arch, s, err, i)
			}
		}
	}
}

func TestPickOfMoreThanAFileHas(t *testing.T) {
	var l []api.Slice
	for i := range uint64(5000) {
		l = append(l, arm(7, i))
	}
	l = append(l, arm(0, 9), arm(2, 10), arm(0, 11))
	before := slices.Clone(l)
	if s, err := fat.Pick(l, api.Arm64e); s != arm(2, 10) || err != api.OK {
		t.Errorf("%v (%v)", s, err)
	}
	if s, err := fat.Pick(l, api.Arm64); s != arm(0, 9) || err != api.OK {
		t.Errorf("%v (%v)", s, err)
	}
	if !slices.Equal(l, before) {
		t.Errorf("the list is another one now")
	}
}

func TestArchitecturesThatThereAreNot(t *testing.T) {
	l := []api.Slice{arm(0, 1), arm(2, 2)}
	big := make([]byte, api.MaxFile+1)
	for _, arch := range arches() {
		if arch == api.Arm64 || arch == api.Arm64e {
			continue
		}
		for _, some := range [][]api.Slice{l, nil} {
			if s, err := fat.Pick(some, arch); err != api.ErrArg || s != (api.Slice{}) {
				t.Errorf("Pick, arch %d: %v (%v)", arch, s, err)
			}
		}
		for _, b := range [][]byte{thin(api.Cpu, 0, 0), nil, []byte("abcd"), head(false, 33), head(true, 1), big, file(false, 99, row{off: 1})} {
			if s, err := fat.Slice(b, arch); err != api.ErrArg || s != (api.Span{}) {
				t.Errorf("Slice, arch %d: %v (%v)", arch, s, err)
			}
		}
	}
}

// at is what an architecture ought to be answered of a file.
func at(t *testing.T, b []byte, arch api.Arch, want api.Span, wantErr api.Errno) {
	t.Helper()
	if s, err := fat.Slice(b, arch); s != want || err != wantErr {
		t.Errorf("Slice, arch %d: %v (%v), want %v (%v)", arch, s, err, want, wantErr)
	}
}

func TestTheDocumentsExamples(t *testing.T) {
	plain := []byte{0xCF, 0xFA, 0xED, 0xFE, 0x0C, 0, 0, 1, 0, 0, 0, 0}
	at(t, plain, api.Arm64, api.Span{Size: 12}, api.OK)
	at(t, plain, api.Arm64e, api.Span{Size: 12}, api.OK)
	e := []byte{0xCF, 0xFA, 0xED, 0xFE, 0x0C, 0, 0, 1, 2, 0, 0, 0}
	at(t, e, api.Arm64, api.Span{}, api.ErrArch)
	at(t, e, api.Arm64e, api.Span{Size: 12}, api.OK)
	none := []byte{0xCA, 0xFE, 0xBA, 0xBE, 0, 0, 0, 0}
	at(t, none, api.Arm64, api.Span{}, api.ErrArch)
	at(t, none, api.Arm64e, api.Span{}, api.ErrArch)
}

func TestSliceOfFiles(t *testing.T) {
	for _, wide := range []bool{false, true} {
		l := []row{{cpu: 7, sub: 0, off: 150, size: 1}, {cpu: api.Cpu, sub: 0x80000000, off: 160, size: 30}, {cpu: api.Cpu, sub: 2, off: 192, size: 40, align: 6}}
		both := file(wide, 300, l...)
		at(t, both, api.Arm64, api.Span{Off: 160, Size: 30}, api.OK)
		at(t, both, api.Arm64e, api.Span{Off: 192, Size: 40}, api.OK)
		plain := file(wide, 300, l[:2]...)
		at(t, plain, api.Arm64, api.Span{Off: 160, Size: 30}, api.OK)
		at(t, plain, api.Arm64e, api.Span{Off: 160, Size: 30}, api.OK)
		e := file(wide, 300, l[0], l[2])
		at(t, e, api.Arm64, api.Span{}, api.ErrArch)
		at(t, e, api.Arm64e, api.Span{Off: 192, Size: 40}, api.OK)
		neither := file(wide, 300, l[0])
		at(t, neither, api.Arm64, api.Span{}, api.ErrArch)
		at(t, neither, api.Arm64e, api.Span{}, api.ErrArch)
	}
}

func TestAFilesErrorIsAheadOfErrArch(t *testing.T) {
	for _, arch := range []api.Arch{api.Arm64, api.Arm64e} {
		at(t, nil, arch, api.Span{}, api.ErrShort)
		at(t, []byte("abcd"), arch, api.Span{}, api.ErrMagic)
		at(t, make([]byte, api.MaxFile+1), arch, api.Span{}, api.ErrMany)
		at(t, head(true, 33), arch, api.Span{}, api.ErrMany)
		at(t, head(true, 1), arch, api.Span{}, api.ErrShort)
		at(t, file(true, 99, row{cpu: 7, off: 98, size: 2}), arch, api.Span{}, api.ErrRange)
		at(t, file(true, 99, row{cpu: 7, off: 98}, row{cpu: 7, off: 98}), arch, api.Span{}, api.ErrTwice)
		at(t, file(true, 99, row{cpu: api.Cpu, off: 98}, row{cpu: api.Cpu, off: 98}), arch, api.Span{}, api.ErrTwice)
		at(t, file(true, 99, row{cpu: api.Cpu, off: 98}, row{cpu: 7, off: 97, size: 3}), arch, api.Span{}, api.ErrRange)
	}
}
