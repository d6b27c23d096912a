package rebase_test

import (
	"slices"
	"testing"

	"clevis/api"
	"clevis/image"
)

// Images, their slices, and streams, put together.

// The numbers of fine's segments.
const (
	text = iota
	data
	more
	hole
	last
	code
	only
	link
)

// fine is an image that may be, and its slice: of segments that stand side by side, of bytes that the file has just in part, and of a hole. Those of the numbers 1, 2, 4, 5 and 6 may be written.
func fine() ([]byte, api.Image) {
	slice := make([]byte, 0x3000)
	for i := range slice {
		slice[i] = byte(i*7 + i>>8 + 1)
	}
	return slice, api.Image{Kind: api.Exec, Segments: []api.Segment{
		text: {Name: "text", Addr: 0x10000, Size: 0x2000, FileSize: 0x1000, Prot: 5},
		data: {Name: "data", Addr: 0x12000, Size: 0x1000, Off: 0x1000, FileSize: 0x123, Prot: 3},
		more: {Name: "more", Addr: 0x13000, Size: 0x1000, Off: 0x2000, FileSize: 0x1000, Prot: 3},
		hole: {Name: "hole", Addr: 0x14000, Size: 0x1000},
		last: {Name: "last", Addr: 0x15000, Size: 0x100000, Prot: 6},
		code: {Name: "code", Addr: 0x200000, Size: 0x1000, Off: 0x1800, FileSize: 0x800, Prot: 7},
		only: {Name: "only", Addr: 0x300000, Size: 0x1000, Prot: 2},
		link: {Name: "link", Addr: 0x301000, Size: 0x1000, Prot: 1},
	}}
}

func TestFineMayBe(t *testing.T) {
	slice, m := fine()
	if err := image.May(m, uint64(len(slice)), 0x1000); err != api.OK {
		t.Fatal(err)
	}
}

// laid is an image of these segments alone, whether it may be or not.
func laid(l ...api.Segment) api.Image {
	return api.Image{Kind: api.Exec, Segments: l}
}

// to is a rebase.
func to(at, target uint64) api.Fixup {
	return api.Fixup{At: at, Kind: api.FixRebase, Target: target}
}

// places are rebases at these addresses, with targets of which nothing hangs.
func places(l ...uint64) []api.Fixup {
	var fixups []api.Fixup
	for i, at := range l {
		fixups = append(fixups, to(at, uint64(i)<<40+at*3))
	}
	return fixups
}

// row are so many addresses, the first one that, each one that much further.
func row(at uint64, many int, step uint64) []uint64 {
	var l []uint64
	for range many {
		l = append(l, at)
		at += step
	}
	return l
}

// with are streams, one behind the other.
func with(l ...string) []byte {
	var b []byte
	for _, s := range l {
		b = append(b, s...)
	}
	return b
}

// decoded asks that Decode of fine answers rebases at those addresses, with what the file has there.
func decoded(t *testing.T, what, stream string, at ...uint64) {
	t.Helper()
	slice, m := fine()
	got, err := checkDecode(t, slice, m, []byte(stream))
	var want []uint64
	for _, f := range got {
		want = append(want, f.At)
	}
	if !slices.Equal(want, at) || err != api.OK {
		t.Errorf("%s: Decode of %s: %s (%v), want %#x", what, brief([]byte(stream)), briefly(got), err, at)
	}
}

// refused asks that Decode of fine answers that error.
func refused(t *testing.T, what, stream string, want api.Errno) {
	t.Helper()
	slice, m := fine()
	if _, err := checkDecode(t, slice, m, []byte(stream)); err != want {
		t.Errorf("%s: Decode of %s: %v, want %v", what, brief([]byte(stream)), err, want)
	}
}
