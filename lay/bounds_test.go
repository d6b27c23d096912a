package lay_test

import (
	"bytes"
	"math"
	"testing"

	"clevis/api"
	"clevis/image"
	"clevis/lay"
	"clevis/space"
)

// P8.3 and P0.3 (what follows, within bounds)

// kin are images that may be, of all kinds and places, with their slices.
func kin(t *testing.T) ([]api.Image, [][]byte) {
	t.Helper()
	pie, twin, far := fine(), lib(), lib()
	pie.Flags |= api.FlagPie
	twin.Segments[1].Addr, twin.Segments[1].FileSize = 5*size, 0
	for i := range far.Segments {
		far.Segments[i].Addr += top - 4*size
	}
	l := []api.Image{fine(), pie, lib(), twin, far}
	var all [][]byte
	for _, m := range l {
		all = append(all, sliceOf(t, m, fineSlice))
	}
	return l, all
}

// TestImagesDoNotMeet: each row of three is laid, by their slides; each byte of each segment is the file's, or 0.
func TestImagesDoNotMeet(t *testing.T) {
	l, all := kin(t)
	for _, base := range []uint64{0, step, 4 * step, 8 * step, 1 << 32, top - 15*step} {
		for i := range l {
			for j := range l {
				for k := range l {
					row := []int{i, j, k}
					slides, _, err := lay.Slides(base, l[i], l[j], l[k])
					if err != api.OK {
						t.Fatalf("%v from %x: %v", row, base, err)
					}
					s := space.New()
					pages := 0
					for x, n := range row {
						if err := lay.Lay(s, all[n], slides[x]); err != api.OK {
							t.Fatalf("%v from %x: %d: %v", row, base, x, err)
						}
						for _, g := range l[n].Segments {
							if !hole(g) {
								pages += int(g.Size / size)
							}
						}
					}
					if s.Pages() != pages {
						t.Fatalf("%v from %x: %d pages, want %d", row, base, s.Pages(), pages)
					}
					for x, n := range row {
						stands(t, s, l[n], all[n], slides[x])
					}
				}
			}
		}
	}
}

// stands: is each byte of each segment there, and the file's, or 0? What may not be read is asked of a copy that may.
func stands(t *testing.T, s *space.Space, m api.Image, slice []byte, slide uint64) {
	t.Helper()
	for _, g := range m.Segments {
		if hole(g) {
			continue
		}
		got, err := s.Read(g.Addr+slide, g.Size)
		want := make([]byte, g.Size)
		copy(want, slice[g.Off:][:g.FileSize])
		if err != api.OK || !bytes.Equal(got, want) {
			t.Fatalf("segment %s by %x: other bytes (%v)", g.Name, slide, err)
		}
		for at := g.Addr; at < g.Addr+g.Size; at += size {
			if s.Prot(at+slide) != g.Prot {
				t.Fatalf("segment %s by %x: protection %d at %x", g.Name, slide, s.Prot(at+slide), at)
			}
		}
	}
}

// TestPlacesAreMultiplesOfStep: images that are moved begin there, and rise.
func TestPlacesAreMultiplesOfStep(t *testing.T) {
	l, _ := kin(t)
	slides, _, _ := lay.Slides(step, append(l, l...)...)
	end := uint64(step)
	for i, m := range append(l, l...) {
		if i == 0 {
			end = fineHigh
			continue
		}
		at := image.Low(m) + slides[i]
		if at%step != 0 || at < end || at-end >= step {
			t.Errorf("%d stands at %x, behind %x", i, at, end)
		}
		end = image.High(m) + slides[i]
	}
}

func TestNilAndZeroSpaces(t *testing.T) {
	var zero space.Space
	if err := checkLay(t, &zero, sliceOf(t, lib(), 5000), step); err != api.OK || zero.Pages() != 3 {
		t.Errorf("a zero space: %v, %d pages", err, zero.Pages())
	}
	for _, slide := range []uint64{0, 1, size, math.MaxUint64} {
		for _, b := range [][]byte{nil, {}, {1}, sliceOf(t, lib(), 5000)} {
			if err := lay.Lay(nil, b, slide); err != api.ErrNil {
				t.Error(err)
			}
		}
		for _, m := range []api.Image{{}, lib()} {
			if err := lay.Fits(nil, m, slide); err != api.ErrNil {
				t.Error(err)
			}
		}
	}
}

func TestSlicesThatAreCutShort(t *testing.T) {
	b := sliceOf(t, fine(), fineSlice)
	for n := 0; n < len(b); n += 7 {
		if err := checkLay(t, mapped(t, fineLow), b[:n], 1); err != api.ErrArg {
			t.Fatal(err)
		}
		checkLay(t, space.New(), b[:n], size)
		checkLay(t, space.New(), b[:n:n], 0)
	}
}

func TestSlicesWithOneByteChanged(t *testing.T) {
	b := sliceOf(t, lib(), 5000)
	for i := range 32 + int(b[20]) + int(b[21])<<8 {
		for _, v := range []byte{0, 1, 2, 4, 8, 0x10, 0x20, 0x40, 0x7F, 0x80, 0xFF} {
			wrong := bytes.Clone(b)
			wrong[i] = v
			checkLay(t, space.New(), wrong, 0)
		}
	}
}

// TestExtremes: all numbers of an image are as great as can be, or as small.
func TestExtremes(t *testing.T) {
	numbers := []uint64{0, 1, size, step, top - size, top, top + 1, 1 << 63, 1<<64 - size, math.MaxUint64}
	s := mapped(t, 0, top-size)
	for _, addr := range numbers {
		for _, n := range numbers {
			for _, prot := range []int{math.MinInt, 0, 3, math.MaxInt} {
				for _, other := range numbers {
					a := api.Segment{Addr: addr, Size: n, Prot: prot, Off: other, FileSize: n}
					m := only(a, api.Segment{Addr: other, Size: addr, Prot: 1})
					for _, slide := range numbers {
						checkFits(t, s, m, slide)
						checkSlides(t, slide, m, only(a))
					}
					m.Kind = api.Exec
					checkSlides(t, other, m, lib())
				}
			}
		}
	}
}

// TestManySegmentsAndImages: there may be any number of them.
func TestManySegmentsAndImages(t *testing.T) {
	const n = 1 << 18
	var m api.Image
	for i := range uint64(n) {
		m.Segments = append(m.Segments, api.Segment{Addr: (n - i) * size, Size: size, Prot: 1})
	}
	s := filled(t, most)
	if err := lay.Fits(s, m, 0); err != api.ErrMany {
		t.Error(err)
	}
	if err := lay.Fits(s, m, top-n*size); err != api.ErrRange {
		t.Error(err)
	}
	m.Segments[0].Addr = size
	if err := lay.Fits(s, m, 0); err != api.ErrTwice {
		t.Error(err)
	}
	l := make([]api.Image, n)
	for i := range l {
		l[i] = of(api.Dylib, 0, uint64(i)*size, size)
	}
	slides, _, err := lay.Slides(0, l...)
	if err != api.OK || len(slides) != n || slides[n-1] != (n-1)*(step-size) {
		t.Error(len(slides), err)
	}
	l[n-1].Segments = nil
	if slides, at, err := lay.Slides(0, l...); slides != nil || at != n-1 || err != api.ErrSegment {
		t.Error(len(slides), at, err)
	}
}

func FuzzLay(f *testing.F) {
	f.Add(sliceOf(f, fine(), fineSlice), uint64(0), uint64(0x30))
	f.Add(sliceOf(f, lib(), 5000), uint64(1<<64-size), uint64(2))
	f.Fuzz(func(t *testing.T, b []byte, slide, page uint64) {
		checkLay(t, mapped(t, page%(top/size)*size), b, slide)
	})
}

func FuzzImages(f *testing.F) {
	f.Add(uint64(65536), uint64(1<<32), uint64(8192), 5, uint64(0), uint64(size), 3, true)
	f.Add(uint64(top), uint64(1<<64-16), uint64(64), 5, uint64(8), uint64(1<<63), 0, false)
	f.Fuzz(func(t *testing.T, base, addr, long uint64, prot int, other, wide uint64, kind int, pie bool) {
		m := only(api.Segment{Addr: addr, Size: long, Prot: prot}, api.Segment{Addr: other, Size: wide, Prot: prot / 8, FileSize: long % 2})
		m.Kind = api.ImageKind(kind)
		if pie {
			m.Flags = api.FlagPie
		}
		checkFits(t, mapped(t, other%(top/size)*size), m, base)
		for _, from := range []uint64{base, base % (top/step + 1) * step} {
			checkSlides(t, from, m)
			checkSlides(t, from, m, lib(), m)
			checkSlides(t, from, only(m.Segments[1]), m)
		}
	})
}
