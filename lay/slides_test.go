package lay_test

import (
	"math"
	"slices"
	"testing"

	"clevis/api"
	"clevis/lay"
)

// P8.1 (Slides)

func TestSlides(t *testing.T) {
	const pie = api.FlagPie
	lib := of(api.Dylib, 0, 0, size)
	for _, x := range []struct {
		what string
		base uint64
		l    []api.Image
		want []uint64
	}{
		{"the chapter's example", 65536, []api.Image{of(api.Exec, pie, 1<<32, 8192), lib}, []uint64{1<<64 - 1<<32 + 65536, 81920}},
		{"a fixed one below the base", 65536, []api.Image{of(api.Exec, 0, 4096, 4096), lib, lib}, []uint64{0, 65536, 65536 + step}},
		{"a fixed one that ends at the base", 65536, []api.Image{of(api.Exec, 0, 4096, 61440), lib}, []uint64{0, 65536}},
		{"a fixed one that goes over the base by a page", 65536, []api.Image{of(api.Exec, 0, 4096, 65536), lib}, []uint64{0, 65536 + step}},
		{"a fixed one far above the base", 65536, []api.Image{of(api.Exec, 0, 1<<32, 3*size), lib}, []uint64{0, 1<<32 + step}},
		{"a fixed one that ends at a multiple of Step", 0, []api.Image{of(api.Exec, 0, step-size, size), lib}, []uint64{0, step}},
		{"a fixed one that ends a page behind one", 0, []api.Image{of(api.Exec, 0, step-size, 2*size), lib}, []uint64{0, 2 * step}},
		{"a fixed one at 0", 0, []api.Image{of(api.Exec, 0, 0, size), lib}, []uint64{0, step}},
		{"a fixed one with all other flags", 0, []api.Image{of(api.Exec, math.MaxUint32-pie, size, size)}, []uint64{0}},
		{"not fixed, with all flags", 65536, []api.Image{of(api.Exec, math.MaxUint32, size, size)}, []uint64{65536 - size}},
		{"a Dylib is never fixed", 65536, []api.Image{of(api.Dylib, 0, size, size)}, []uint64{65536 - size}},
		{"nor is any other kind", 65536, []api.Image{of(3, 0, size, size), of(0, 0, size, size)}, []uint64{65536 - size, 65536 + step - size}},
		{"nor a second Exec", 65536, []api.Image{of(api.Exec, 0, size, size), of(api.Exec, 0, size, size)}, []uint64{0, 65536 - size}},
		{"nor one behind a Dylib", 65536, []api.Image{lib, of(api.Exec, 0, size, size)}, []uint64{65536, 65536 + step - size}},
		{"from 0 on", 0, []api.Image{lib, lib, lib}, []uint64{0, step, 2 * step}},
		{"as long as Step", 0, []api.Image{of(api.Dylib, 0, 0, step), lib}, []uint64{0, step}},
		{"a page longer", 0, []api.Image{of(api.Dylib, 0, 0, step, size), lib}, []uint64{0, 2 * step}},
		{"a byte longer", 0, []api.Image{of(api.Dylib, 0, 0, step, 1), lib}, []uint64{0, 2 * step}},
		{"a low that is no multiple of Step", 0, []api.Image{of(api.Dylib, 0, 3*size, step), lib}, []uint64{1<<64 - 3*size, step}},
		{"far above its place", 0, []api.Image{of(api.Dylib, 0, top-size, size)}, []uint64{1<<64 - top + size}},
		{"with holes and gaps", 0, []api.Image{lib, fine(), lib}, []uint64{0, 1<<64 - fineLow + step, step + 5*step}},
	} {
		got, at, err := lay.Slides(x.base, x.l...)
		if !slices.Equal(got, x.want) || at != 0 || err != api.OK {
			t.Errorf("%s: %x, %d (%v), want %x", x.what, got, at, err, x.want)
		}
		checkSlides(t, x.base, x.l...)
	}
}

// TestHolesDoNotCount: neither where a hole begins nor where it ends is low or high.
func TestHolesDoNotCount(t *testing.T) {
	m := only(api.Segment{Size: 1 << 50}, api.Segment{Addr: 0x5000, Size: 0x1000, Prot: 5}, api.Segment{Addr: 0x7000, Size: 0x1000, FileSize: 1}, api.Segment{Addr: 0x9000, Size: 1 << 50})
	got, at, err := lay.Slides(0, m, m)
	if want := []uint64{1<<64 - 0x5000, 1<<64 + step - 0x5000}; !slices.Equal(got, want) || at != 0 || err != api.OK {
		t.Errorf("%x, %d (%v), want %x", got, at, err, want)
	}
}

func TestRefusedSlides(t *testing.T) {
	one := of(api.Dylib, 0, size, size)
	fixed := of(api.Exec, 0, size, size)
	none, holes := only(), only(api.Segment{Size: size}, api.Segment{Addr: size, Size: size})
	long := of(api.Dylib, 0, 0, top-step+1)
	for _, x := range []struct {
		what string
		base uint64
		l    []api.Image
		at   int
		want api.Errno
	}{
		{"no images", 0, nil, 0, api.ErrArg},
		{"none of none", step, []api.Image{}, 0, api.ErrArg},
		{"a base that is no multiple", 1, []api.Image{one}, 0, api.ErrArg},
		{"one of PageSize alone", size, []api.Image{one}, 0, api.ErrArg},
		{"one of half a Step", step / 2, []api.Image{one}, 0, api.ErrArg},
		{"one below a multiple", step - 1, []api.Image{one}, 0, api.ErrArg},
		{"a base above MaxAddress", top + step, []api.Image{fixed}, 0, api.ErrArg},
		{"the greatest multiple", 1<<64 - step, []api.Image{fixed}, 0, api.ErrArg},
		{"the greatest number", math.MaxUint64, []api.Image{fixed}, 0, api.ErrArg},
		{"a wrong base, and a wrong image", 1, []api.Image{one, none}, 0, api.ErrArg},
		{"no segments", 0, []api.Image{none}, 0, api.ErrSegment},
		{"holes alone", 0, []api.Image{one, holes}, 1, api.ErrSegment},
		{"of size 0", 0, []api.Image{fixed, one, of(api.Dylib, 0, size, 0)}, 2, api.ErrSegment},
		{"a fixed one of size 0", 0, []api.Image{of(api.Exec, 0, size, 0)}, 0, api.ErrSegment},
		{"a fixed one without segments", 0, []api.Image{{Kind: api.Exec}}, 0, api.ErrSegment},
		{"its end goes round", 0, []api.Image{one, of(api.Dylib, 0, 1<<63, 1<<63)}, 1, api.ErrSegment},
		{"a fixed one's end goes round", 0, []api.Image{of(api.Exec, 0, 1<<64-size, 2*size), one}, 0, api.ErrSegment},
		{"the first wrong one is told", 0, []api.Image{one, none, holes}, 1, api.ErrSegment},
		{"no room ahead of no segments", top, []api.Image{one, none}, 0, api.ErrRoom},
		{"no segments, and no room either", top, []api.Image{none}, 0, api.ErrSegment},
		{"no segments ahead of no room", top - step, []api.Image{one, none, one}, 1, api.ErrSegment},
		{"at MaxAddress", top, []api.Image{one}, 0, api.ErrRoom},
		{"at MaxAddress, by those ahead", top - step, []api.Image{one, one}, 1, api.ErrRoom},
		{"a byte too long", step, []api.Image{long}, 0, api.ErrRoom},
		{"longer than all there is", 0, []api.Image{of(api.Dylib, 0, 0, top+1)}, 0, api.ErrRoom},
		{"so long that it goes round", step, []api.Image{of(api.Dylib, 0, 0, 1<<64-step)}, 0, api.ErrRoom},
		{"as long as can be", top, []api.Image{of(api.Dylib, 0, 0, math.MaxUint64)}, 0, api.ErrRoom},
		{"a fixed one that ends above", 0, []api.Image{of(api.Exec, 0, top-size, size+1)}, 0, api.ErrRoom},
		{"a fixed one that begins above", 0, []api.Image{of(api.Exec, 0, top, size)}, 0, api.ErrRoom},
		{"a fixed one up to 2^64 - 1", 0, []api.Image{of(api.Exec, 0, size, 1<<64-size-1)}, 0, api.ErrRoom},
		{"behind a fixed one that ends at MaxAddress", 0, []api.Image{of(api.Exec, 0, top-size, size), one}, 1, api.ErrRoom},
		{"behind a fixed one that ends in the last Step", 0, []api.Image{of(api.Exec, 0, top-step, size), one}, 1, api.ErrRoom},
		{"behind a fixed one, from MaxAddress on", top, []api.Image{fixed, one}, 1, api.ErrRoom},
	} {
		got, at, err := lay.Slides(x.base, x.l...)
		if got != nil || at != x.at || err != x.want {
			t.Errorf("%s: %x, %d (%v), want %d (%v)", x.what, got, at, err, x.at, x.want)
		}
		checkSlides(t, x.base, x.l...)
	}
}

func TestSlidesUpToMaxAddress(t *testing.T) {
	one := of(api.Dylib, 0, size, size)
	for _, x := range []struct {
		what string
		base uint64
		l    []api.Image
		want []uint64
	}{
		{"in the last Step", top - step, []api.Image{one}, []uint64{top - step - size}},
		{"all of the last Step", top - step, []api.Image{of(api.Dylib, 0, 0, step)}, []uint64{top - step}},
		{"two up to the end", top - 3*step, []api.Image{of(api.Dylib, 0, 0, step+1), of(api.Dylib, 0, 0, step)}, []uint64{top - 3*step, top - step}},
		{"all there is", 0, []api.Image{of(api.Dylib, 0, 0, top)}, []uint64{0}},
		{"all there is, of one far above", 0, []api.Image{of(api.Dylib, 0, 1<<63, top)}, []uint64{1 << 63}},
		{"a fixed one up to the end", 0, []api.Image{of(api.Exec, 0, top-size, size)}, []uint64{0}},
		{"a fixed one, from MaxAddress on", top, []api.Image{of(api.Exec, 0, size, size)}, []uint64{0}},
		{"a fixed one as long as all there is", top, []api.Image{of(api.Exec, 0, 0, top)}, []uint64{0}},
	} {
		got, at, err := lay.Slides(x.base, x.l...)
		if !slices.Equal(got, x.want) || at != 0 || err != api.OK {
			t.Errorf("%s: %x, %d (%v), want %x", x.what, got, at, err, x.want)
		}
		checkSlides(t, x.base, x.l...)
	}
}

// TestRowsOfImages: rows of up to three images, from bases on.
func TestRowsOfImages(t *testing.T) {
	images := []api.Image{
		fine(), lib(), only(), only(api.Segment{Addr: size, Size: size}),
		of(api.Exec, 0, 0, size), of(api.Exec, api.FlagPie, 1<<32, 8192), of(api.Exec, 0, 1<<32, step, step), of(api.Exec, 0, top-step-size, size), of(api.Exec, 0, top-step, size+1), of(api.Exec, 0, top, 1),
		of(api.Dylib, 0, 5*size, step-1), of(api.Dylib, 0, 5, step+1), of(api.Dylib, 0, top, top-3*step), of(api.Dylib, 0, 1<<64-size, size), of(api.Dylib, 0, 0, math.MaxUint64), of(8, api.FlagPie, size, size, size),
	}
	for _, base := range []uint64{0, step, 65536, 1 << 32, top - 4*step, top - step, top, top + step, size, math.MaxUint64} {
		checkSlides(t, base)
		for _, a := range images {
			checkSlides(t, base, a)
			for _, b := range images {
				checkSlides(t, base, a, b)
				for _, c := range images {
					checkSlides(t, base, a, b, c)
				}
			}
		}
	}
}
