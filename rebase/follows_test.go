package rebase_test

import (
	"bytes"
	"slices"
	"testing"

	"clevis/api"
	"clevis/rebase"
)

// P13.3 (what follows)

// follow asks that Decode of Make are the rebases of these places, in order, with what the file has there; and that Make of these is the same stream.
func follow(t *testing.T, slice []byte, m api.Image, l ...api.Fixup) {
	t.Helper()
	b, err := checkMake(t, m, l...)
	if err != api.OK {
		return
	}
	var want []api.Fixup
	for _, f := range wantSet(l) {
		want = append(want, to(f.At, wantWord(slice, m, f.At)))
	}
	for _, stream := range [][]byte{b, b[:len(b)-1], append(bytes.Clone(b), 0x90)} {
		got, err := checkDecode(t, slice, m, stream)
		if !slices.Equal(got, want) || err != api.OK {
			t.Fatalf("Decode of Make, %s: %s (%v), want %s", brief(stream), briefly(got), err, briefly(want))
		}
	}
	if again, err := rebase.Make(m, want...); !bytes.Equal(again, b) || err != api.OK {
		t.Fatalf("Make of Decode: %s (%v), want %s", brief(again), err, brief(b))
	}
}

// stand asks that all that Decode tells stands where it may be written, with what the file has there, and is no more than may be.
func stand(t *testing.T, slice []byte, m api.Image, l []api.Fixup) {
	t.Helper()
	if len(l) > mostFixups {
		t.Fatalf("%d are told", len(l))
	}
	for _, f := range l {
		if !wantProt(m, f.At) || f != to(f.At, wantWord(slice, m, f.At)) {
			t.Fatalf("%+v is told", f)
		}
	}
}

// TestAllSubsets: all sets of some places, in rows, with gaps, and on both sides of segments' ends.
func TestAllSubsets(t *testing.T) {
	slice, m := fine()
	some := []uint64{0x12000, 0x12008, 0x12010, 0x12019, 0x12118, 0x12120, 0x12FF0, 0x12FF8, 0x13000, 0x13008, 0x13FF8, 0x15000, 0x15008, 0x200000, 0x300FF8}
	for set := range 1 << len(some) {
		var l []api.Fixup
		for i, at := range some {
			if set>>i&1 == 1 {
				l = append(l, to(at, uint64(set)))
			}
		}
		follow(t, slice, m, l...)
	}
}

// TestRowsOfPlaces: rows of so many, so far apart, from each place beside a segment's end on.
func TestRowsOfPlaces(t *testing.T) {
	slice, m := fine()
	for many := range 40 {
		for step := uint64(8); step < 20; step++ {
			for _, at := range []uint64{0x12000, 0x12001, 0x12110, 0x12F00, 0x12F01, 0x13F80, 0x200F00, 0x114F00} {
				follow(t, slice, m, places(row(at, many, step)...)...)
			}
		}
	}
	for _, step := range []uint64{8, 9, 16, 48} {
		follow(t, slice, m, places(row(0x15000, mostFixups, step)...)...)
		follow(t, slice, m, places(row(0x12000, 1024, step)...)...)
	}
}

// TestAnySegments: of images that may not be, too.
func TestAnySegments(t *testing.T) {
	slice, _ := fine()
	some := []api.Segment{
		{Addr: 0x1000, Size: 0x20, Off: 5, FileSize: 0x11, Prot: 3},
		{Addr: 0x1010, Size: 0x1000, Off: 0x2FF0, FileSize: 0x11, Prot: 2},
		{Addr: 0x1008, Size: 8, Prot: 7, Off: 0x1000, FileSize: 8},
		{Addr: 0x1020, Size: 1 << 63, FileSize: 1 << 63, Prot: 6},
		{Addr: 0x1000, Size: 0x1000},
		{Addr: 0x1018, Size: 0x10, Prot: 5},
		{Addr: 0x0FF9, Size: 0x17, Prot: 3, Off: 1, FileSize: 0x17},
	}
	for _, a := range some {
		for _, b := range some {
			for _, c := range some {
				m := laid(a, b, c)
				for at := uint64(0x0FF0); at < 0x1030; at++ {
					follow(t, slice, m, to(at, 1))
				}
				for set := range 1 << 7 {
					var l []api.Fixup
					for i := range uint64(7) {
						if set>>i&1 == 1 {
							l = append(l, to(0x1000+8*i, i))
						}
					}
					follow(t, slice, m, l...)
				}
			}
		}
	}
	all := sixteen(0)
	follow(t, slice, all, places(row(0, 4096, 16)...)...)
	follow(t, slice, all, places(row(5, 16*511, 8)...)...)
	follow(t, slice, all, places(row(0, 16*512, 8)...)...)
}
