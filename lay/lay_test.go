package lay_test

import (
	"bytes"
	"math"
	"reflect"
	"slices"
	"testing"

	"clevis/api"
	"clevis/lay"
	"clevis/space"
)

// P8.2 (Lay, Fits)

func TestLay(t *testing.T) {
	b := sliceOf(t, fine(), fineSlice)
	for _, slide := range []uint64{0, size, step, 1 << 32, top - fineHigh, 1<<64 - fineLow, 1<<64 - size} {
		s := space.New()
		if err := checkLay(t, s, b, slide); err != api.OK {
			t.Fatalf("by %x: %v", slide, err)
		}
		want := []head{{fineLow + slide, 0x2000, 5}, {0x14000 + slide, 0x4000, 3}, {0x20000 + slide, 0x1000, 1}}
		d := s.Dump()
		if !slices.Equal(heads(d), want) || s.Pages() != fineSolid {
			t.Fatalf("by %x: %v, want %v", slide, heads(d), want)
		}
		file := func(at, n uint64, size int) []byte {
			return append(bytes.Clone(b[at:][:n]), make([]byte, size-int(n))...)
		}
		if !bytes.Equal(d[0].Bytes, file(0, 0x1800, 0x2000)) || !bytes.Equal(d[1].Bytes, file(0x1900, 0x123, 0x4000)) || !bytes.Equal(d[2].Bytes, file(0x1A30, 0x300, 0x1000)) {
			t.Errorf("by %x: other bytes than the file's", slide)
		}
	}
}

// TestLayOfEachProtection: what is laid is filled, be it to be written, or not.
func TestLayOfEachProtection(t *testing.T) {
	for prot := range 8 {
		m := lib()
		m.Segments[1].Prot = prot
		b := sliceOf(t, m, 5000)
		s := space.New()
		want := api.OK
		if prot == 0 {
			want = api.ErrSegment
		}
		if err := checkLay(t, s, b, step); err != want {
			t.Errorf("%d: %v, want %v", prot, err, want)
		}
		if s.Prot(step+size) != prot || s.Prot(step+3*size-1) != prot || s.Prot(step+3*size) != 0 {
			t.Errorf("%d: %d", prot, s.Prot(step+size))
		}
	}
}

func TestLayOfEachFileSize(t *testing.T) {
	for _, n := range []uint64{0, 1, 7, 8, 904, 4095, 4096, 4097, 8191, 8192} {
		m := lib()
		m.Segments[1].FileSize = n
		s := space.New()
		if err := checkLay(t, s, sliceOf(t, m, 4096+int(n)), 0); err != api.OK {
			t.Errorf("%d: %v", n, err)
		}
	}
}

func TestTheSliceIsNotShared(t *testing.T) {
	b := sliceOf(t, lib(), 5000)
	s := space.New()
	lay.Lay(s, b, 0)
	c := s.Copy()
	clear(b)
	if !s.Same(c) {
		t.Error("the space changes with the slice")
	}
	b = sliceOf(t, lib(), 5000)
	s.Fill(0, make([]byte, 3*size))
	if !bytes.Equal(b, sliceOf(t, lib(), 5000)) {
		t.Error("the slice changes with the space")
	}
}

// TestErrorsInOrder: of several errors the one named first.
func TestErrorsInOrder(t *testing.T) {
	fits, wrong := sliceOf(t, lib(), 5000), []byte{1}
	for _, x := range []struct {
		what  string
		s     *space.Space
		slice []byte
		slide uint64
		want  api.Errno
	}{
		{"no space, no slide, no image", nil, wrong, 1, api.ErrNil},
		{"no space", nil, fits, 0, api.ErrNil},
		{"no slide, no image", space.New(), wrong, size - 1, api.ErrArg},
		{"no slide, beyond MaxAddress", space.New(), fits, top + 1, api.ErrArg},
		{"no slide", space.New(), fits, 1, api.ErrArg},
		{"the greatest number", space.New(), fits, math.MaxUint64, api.ErrArg},
		{"no image, beyond MaxAddress", space.New(), wrong, top, api.ErrShort},
		{"another magic", space.New(), make([]byte, 5000), 0, api.ErrMagic},
		{"an image that may not be, in a full space", filled(t, most), sliceOf(t, fine(), fineSlice-0x300), 0, api.ErrSegment},
		{"a Dylib without a name", space.New(), sliceOf(t, only(lib().Segments...), 5000), 0, api.ErrName},
		{"beyond MaxAddress, where a page is", mapped(t, top-size), fits, top - 2*size, api.ErrRange},
		{"beyond MaxAddress, in a full space", filled(t, most), fits, top, api.ErrRange},
		{"a page is there, in a full space", filled(t, most), fits, top - 3*size, api.ErrTwice},
		{"a full space", filled(t, most), fits, 0, api.ErrMany},
	} {
		before := x.s.Copy()
		if err := lay.Lay(x.s, x.slice, x.slide); err != x.want {
			t.Errorf("%s: %v, want %v", x.what, err, x.want)
		}
		if !x.s.Same(before) {
			t.Errorf("%s: it was refused, and changed the space", x.what)
		}
	}
	for _, x := range []struct {
		what  string
		s     *space.Space
		slide uint64
		want  api.Errno
	}{
		{"no space, no slide", nil, 1, api.ErrNil},
		{"no space", nil, 0, api.ErrNil},
		{"no slide, beyond MaxAddress", space.New(), top + 8, api.ErrArg},
		{"beyond MaxAddress, where a page is", mapped(t, top-size), top - 2*size, api.ErrRange},
		{"a page is there, in a full space", filled(t, most), top - 3*size, api.ErrTwice},
		{"a full space", filled(t, most), 0, api.ErrMany},
		{"it fits", space.New(), 0, api.OK},
	} {
		if err := lay.Fits(x.s, lib(), x.slide); err != x.want {
			t.Errorf("Fits: %s: %v, want %v", x.what, err, x.want)
		}
	}
}

// TestAnErrorOfALaterSegmentIsAsked: the first of the errors counts, not the first of the segments.
func TestAnErrorOfALaterSegmentIsAsked(t *testing.T) {
	near, far := api.Segment{Size: size, Prot: 1}, api.Segment{Addr: top, Size: size, Prot: 1}
	if err := lay.Fits(mapped(t, 0), only(near, far), 0); err != api.ErrRange {
		t.Errorf("a page is there, then beyond MaxAddress: %v", err)
	}
	long := api.Segment{Addr: 1 << 40, Size: (most + 1) * size, Prot: 1}
	if err := lay.Fits(mapped(t, 0), only(long, near), 0); err != api.ErrTwice {
		t.Errorf("too many pages, then a page is there: %v", err)
	}
	if err := lay.Fits(mapped(t, 1<<45), only(long, near), 0); err != api.ErrMany {
		t.Errorf("too many pages: %v", err)
	}
	if err := lay.Fits(mapped(t, 1<<45), only(far, long), 1<<64-size); err != api.ErrMany {
		t.Errorf("too many pages, by a slide: %v", err)
	}
}

func TestUpToMaxAddress(t *testing.T) {
	b := sliceOf(t, fine(), fineSlice)
	// A hole may go beyond.
	if err := checkLay(t, space.New(), b, top-fineHigh); err != api.OK {
		t.Error(err)
	}
	for _, slide := range []uint64{top - fineHigh + size, top - fineHigh + 2*size, top - size, top, 1 << 48, 1 << 63, 1<<64 - fineLow - size, 1<<64 - 0x14000} {
		if err := checkLay(t, space.New(), b, slide); err != api.ErrRange {
			t.Errorf("by %x: %v", slide, err)
		}
	}
}

// TestWhereAPageIs: one page, at each place of an image, its holes and gaps, and beside it.
func TestWhereAPageIs(t *testing.T) {
	b := sliceOf(t, fine(), fineSlice)
	for _, slide := range []uint64{0, 5 * size, 1 << 40} {
		for at := uint64(fineLow - 2*size); at < fineHigh+3*size; at += size {
			want := api.OK
			if at >= 0x10000 && at < 0x12000 || at >= 0x14000 && at < 0x18000 || at >= 0x20000 && at < 0x21000 {
				want = api.ErrTwice
			}
			if err := checkLay(t, mapped(t, at+slide), b, slide); err != want {
				t.Errorf("a page at %x, by %x: %v, want %v", at, slide, err, want)
			}
		}
	}
}

// TestAllPagesThatMayBe: as many as there may be, and one more.
func TestAllPagesThatMayBe(t *testing.T) {
	b := sliceOf(t, fine(), fineSlice)
	for left := range uint64(fineSolid + 3) {
		want := api.OK
		if left < fineSolid {
			want = api.ErrMany
		}
		s := filled(t, most-left)
		if err := lay.Fits(s, fine(), 0); err != want {
			t.Errorf("%d pages are left: Fits: %v", left, err)
		}
		before := s.Copy()
		if err := lay.Lay(s, b, 0); err != want {
			t.Errorf("%d pages are left: %v", left, err)
		}
		if same := s.Same(before); same != (want != api.OK) {
			t.Errorf("%d pages are left: the same: %v", left, same)
		}
		if want == api.OK && s.Pages() != int(most-left+fineSolid) {
			t.Errorf("%d pages are left: %d there are", left, s.Pages())
		}
	}
	all := lib()
	all.Segments[1].Size = (most - 1) * size
	s := space.New()
	if err := checkLay(t, s, sliceOf(t, all, 5000), 0); err != api.OK || s.Pages() != most {
		t.Errorf("all pages: %v, %d", err, s.Pages())
	}
	all.Segments[1].Size += size
	if err := checkLay(t, space.New(), sliceOf(t, all, 5000), 0); err != api.ErrMany {
		t.Errorf("one more: %v", err)
	}
}

// TestFitsTellsWhatLayDoes: each of many pairs of images, beside one another, or not.
func TestFitsTellsWhatLayDoes(t *testing.T) {
	images := []api.Image{fine(), lib()}
	bytesOf := [][]byte{sliceOf(t, fine(), fineSlice), sliceOf(t, lib(), 5000)}
	for i := range images {
		for j, m := range images {
			for k := range uint64(40) {
				s := space.New()
				lay.Lay(s, bytesOf[i], 16*size)
				slide := k * size
				fits := lay.Fits(s, m, slide)
				if err := checkLay(t, s, bytesOf[j], slide); err != fits || err != api.OK && err != api.ErrTwice {
					t.Fatalf("%d, %d by %x: %v, Fits: %v", i, j, slide, err, fits)
				}
			}
		}
	}
}

// TestFitsOfAnyImage: also of those that may not be: each two of wild segments.
func TestFitsOfAnyImage(t *testing.T) {
	l := wild()
	for _, s := range []*space.Space{space.New(), mapped(t, 0x2000), mapped(t, 0x10000, top-size)} {
		for _, slide := range []uint64{0, size, 8 * size, top - 3*size, 1 << 63, 1<<64 - size, 1} {
			checkFits(t, s, only(), slide)
			for _, a := range l {
				checkFits(t, s, only(a), slide)
				for _, b := range l {
					checkFits(t, s, only(a, b), slide)
					checkFits(t, s, only(a, b, l[0]), slide)
				}
			}
		}
	}
}

func TestFitsOfNoSegments(t *testing.T) {
	for _, m := range []api.Image{{}, only(api.Segment{}), only(api.Segment{Addr: 1, Size: math.MaxUint64})} {
		if err := lay.Fits(filled(t, most), m, 0); err != api.OK {
			t.Errorf("%+v: %v", m, err)
		}
	}
}

func TestFitsOfSegmentsThatMeet(t *testing.T) {
	a, b := api.Segment{Addr: size, Size: 2 * size, Prot: 1}, api.Segment{Addr: 3 * size, Size: size, Prot: 3}
	over := api.Segment{Addr: 2 * size, Size: size, Prot: 1}
	for _, x := range []struct {
		l    []api.Segment
		want api.Errno
	}{
		{[]api.Segment{a, b}, api.OK}, {[]api.Segment{b, a}, api.OK}, {[]api.Segment{a, a}, api.ErrTwice}, {[]api.Segment{a, b, over}, api.ErrTwice}, {[]api.Segment{over, b, a}, api.ErrTwice},
		{[]api.Segment{a, {Addr: 2 * size, Prot: 1}, b}, api.OK}, {[]api.Segment{a, {Addr: 2 * size, Size: size}, b}, api.OK},
	} {
		if err := lay.Fits(space.New(), only(x.l...), 0); err != x.want {
			t.Errorf("%+v: %v, want %v", x.l, err, x.want)
		}
	}
}

func TestWhatIsHandedInStays(t *testing.T) {
	m := only(api.Segment{Addr: 3 * size, Size: size, Prot: 1}, api.Segment{Addr: size, Size: size, Prot: 1}, api.Segment{Size: size, Prot: 1})
	l := []api.Image{m, fine(), lib()}
	lay.Fits(space.New(), m, size)
	lay.Slides(0, l...)
	want := []api.Segment{{Addr: 3 * size, Size: size, Prot: 1}, {Addr: size, Size: size, Prot: 1}, {Size: size, Prot: 1}}
	if !slices.EqualFunc(m.Segments, want, func(a, b api.Segment) bool { return a.Addr == b.Addr }) {
		t.Error("the segments have another order")
	}
	if !reflect.DeepEqual(l, []api.Image{only(want...), fine(), lib()}) {
		t.Error("the images were changed")
	}
}
