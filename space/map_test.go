package space_test

import (
	"math"
	"testing"

	"clevis/api"
	"clevis/space"
)

// P7.1 (New, Map, Free, Prot, Pages)

// mapped maps what is to be mapped.
func mapped(t *testing.T, s *space.Space, at, n uint64, prot int) {
	t.Helper()
	if err := s.Map(at, n, prot); err != api.OK {
		t.Fatalf("Map at %x, of %x bytes: %v", at, n, err)
	}
}

func TestNewHasNoPages(t *testing.T) {
	var zero space.Space
	for _, s := range []*space.Space{space.New(), &zero} {
		x := both{t, s, &window{}}
		x.whole()
		for _, at := range edges(0) {
			for _, n := range lengths() {
				x.asks(at, n)
			}
			x.fill(at, []byte{1})
			x.write(at, []byte{1})
			x.setWord(at, 1)
		}
		x.lay(size, 2*size, 3)
		x.setWord(2*size-4, 0x1122334455667788)
		x.word(2*size - 4)
		x.whole()
	}
	if space.New().Pages() != 0 || !space.New().Same(&space.Space{}) {
		t.Error("a new one is not like a zero one")
	}
}

func TestNewOnesAreApart(t *testing.T) {
	a, b := space.New(), space.New()
	mapped(t, a, 0, size, 3)
	if b.Pages() != 0 || !b.Free(0, size) || space.New().Pages() != 0 {
		t.Error("a page of the one is there in the other")
	}
}

func TestMapErrors(t *testing.T) {
	for _, x := range []struct {
		what  string
		at, n uint64
		prot  int
		want  api.Errno
	}{
		{"a place that is no multiple", 1, size, 1, api.ErrArg},
		{"a place that is none, by a half", size / 2, size, 1, api.ErrArg},
		{"a size that is no multiple", 0, size - 1, 1, api.ErrArg},
		{"a size that is none, just above", 0, size + 1, 1, api.ErrArg},
		{"no bytes", 0, 0, 1, api.ErrArg},
		{"no bytes, beyond", top + size, 0, 1, api.ErrArg},
		{"protection 0", 0, size, 0, api.ErrArg},
		{"protection 8", 0, size, 8, api.ErrArg},
		{"protection 9", 0, size, 9, api.ErrArg},
		{"protection -1", 0, size, -1, api.ErrArg},
		{"the least protection", 0, size, math.MinInt, api.ErrArg},
		{"the greatest protection", 0, size, math.MaxInt, api.ErrArg},
		{"no multiple, beyond", top + 1, size, 1, api.ErrArg},
		{"no multiple, where a page is", 2*size + 1, size, 1, api.ErrArg},
		{"no protection, beyond", top, size, 0, api.ErrArg},
		{"no protection, where a page is", 2 * size, size, 0, api.ErrArg},
		{"no protection, too many", 4 * size, 9000 * size, 8, api.ErrArg},
		{"at MaxAddress", top, size, 1, api.ErrRange},
		{"up to a page beyond it", top - size, 2 * size, 1, api.ErrRange},
		{"all, and one page", 0, top + size, 1, api.ErrRange},
		{"as many as may be, but from the second page on", size, top, 1, api.ErrRange},
		{"up to 2^64", math.MaxUint64 - (size - 1), size, 1, api.ErrRange},
		{"beyond 2^64, and round to 4096", math.MaxUint64 - (size - 1), 2 * size, 1, api.ErrRange},
		{"beyond 2^64, and round to where a page is", math.MaxUint64 - (size - 1), 4 * size, 1, api.ErrRange},
		{"the greatest size", 0, math.MaxUint64 - (size - 1), 1, api.ErrRange},
		{"the greatest place and size", math.MaxUint64 - (size - 1), math.MaxUint64 - (size - 1), 1, api.ErrRange},
		{"where a page is", 2 * size, size, 1, api.ErrTwice},
		{"where a page is, of another protection", 2 * size, size, 7, api.ErrTwice},
		{"a page is the last one", 0, 3 * size, 1, api.ErrTwice},
		{"a page is the first one", 3 * size, 2 * size, 1, api.ErrTwice},
		{"a page is in the midst", size, 4 * size, 1, api.ErrTwice},
		{"all that may be", 0, top, 1, api.ErrTwice},
		{"too many, where a page is", 3 * size, 9000 * size, 1, api.ErrTwice},
		{"too many, where none is", 4 * size, 9000 * size, 1, api.ErrMany},
		{"all behind the pages", 4 * size, top - 4*size, 1, api.ErrMany},
		{"one too many", 4 * size, 8191 * size, 1, api.ErrMany},
		{"as many as may be", 4 * size, 8190 * size, 1, api.OK},
		{"the last page", top - size, size, 1, api.OK},
		{"the first two", 0, 2 * size, 7, api.OK},
		{"just behind", 4 * size, size, 3, api.OK},
	} {
		s := space.New()
		mapped(t, s, 2*size, 2*size, 3)
		before := s.Copy()
		if err := s.Map(x.at, x.n, x.prot); err != x.want {
			t.Errorf("%s: %v, want %v", x.what, err, x.want)
		}
		if x.want != api.OK && !s.Same(before) {
			t.Errorf("%s: it was refused, and changed something", x.what)
		}
		if x.want == api.OK && (s.Pages() != 2+int(x.n/size) || s.Prot(x.at) != x.prot || s.Prot(x.at+x.n-1) != x.prot) {
			t.Errorf("%s: its pages are not there", x.what)
		}
	}
}

func TestMapOfAsManyPagesAsMayBe(t *testing.T) {
	s := space.New()
	if err := s.Map(0, 8193*size, 1); err != api.ErrMany || s.Pages() != 0 {
		t.Errorf("one too many at once: %v", err)
	}
	mapped(t, s, 0, 8192*size, 1)
	if err := s.Map(8192*size, size, 1); err != api.ErrMany || s.Pages() != 8192 {
		t.Errorf("one more: %v", err)
	}
	if err := s.Map(8191*size, size, 1); err != api.ErrTwice {
		t.Errorf("where a page is, of a full one: %v", err)
	}
	if err := s.Map(top, size, 1); err != api.ErrRange {
		t.Errorf("beyond, of a full one: %v", err)
	}
	if d := s.Dump(); len(d) != 1 || len(d[0].Bytes) != 8192*size {
		t.Errorf("%v", heads(d))
	}
}

func TestMapPageByPageUpToTheLimit(t *testing.T) {
	s := space.New()
	for k := range uint64(8192) {
		mapped(t, s, k*3*size, size, int(k%7)+1)
	}
	if err := s.Map(size, size, 1); err != api.ErrMany || s.Pages() != 8192 || !s.Free(size, 2*size) {
		t.Errorf("one more: %v", err)
	}
	for k := range uint64(8192) {
		if s.Prot(k*3*size) != int(k%7)+1 || s.Prot((k*3+1)*size) != 0 {
			t.Fatalf("page %d: %d", k, s.Prot(k*3*size))
		}
	}
}

func TestEachProtection(t *testing.T) {
	for prot := 1; prot <= 7; prot++ {
		for _, at := range []uint64{0, size, 1 << 40, top - 2*size} {
			s := space.New()
			mapped(t, s, at, 2*size, prot)
			for _, b := range []uint64{0, 1, size - 1, size, 2*size - 1} {
				if s.Prot(at+b) != prot {
					t.Errorf("protection %d at %x: %d", prot, at+b, s.Prot(at+b))
				}
			}
			if s.Prot(at-1) != 0 || s.Prot(at+2*size) != 0 {
				t.Errorf("beside the pages at %x: %d, %d", at, s.Prot(at-1), s.Prot(at+2*size))
			}
		}
	}
}

func TestFree(t *testing.T) {
	s := space.New()
	mapped(t, s, 2*size, size, 1)
	mapped(t, s, top-size, size, 7)
	for _, x := range []struct {
		at, n uint64
		want  bool
	}{
		{0, 2 * size, true}, {0, 2*size + 1, false}, {2*size - 1, 1, true}, {2*size - 1, 2, false}, {2 * size, 1, false}, {3*size - 1, 1, false}, {3*size - 1, size, false}, {3 * size, 1, true},
		{3 * size, top - 4*size, true}, {3 * size, top - 4*size + 1, false}, {3*size - 1, top - 4*size, false}, {0, top, false}, {1 << 40, 1 << 45, true},
		{top - size, 1, false}, {top - 1, 1, false}, {top - 1, 2, false}, {top, 1, false}, {top, size, false}, {1 << 63, 1, false}, {math.MaxUint64, 1, false}, {math.MaxUint64, math.MaxUint64, false},
		{0, math.MaxUint64, false}, {math.MaxUint64 - (size - 1), 2 * size, false}, {3 * size, top - 3*size, false}, {3 * size, top, false},
		{2 * size, 0, true}, {2*size + 5, 0, true}, {top, 0, true}, {top + 1, 0, true}, {math.MaxUint64, 0, true}, {0, 0, true},
	} {
		if is := s.Free(x.at, x.n); is != x.want {
			t.Errorf("%x bytes at %x: %v", x.n, x.at, is)
		}
	}
	if !space.New().Free(0, top) || space.New().Free(0, top+1) || space.New().Free(1, top) {
		t.Error("one without pages is free up to MaxAddress alone")
	}
}

// TestMapsOnAllLayouts: each range of a window, on each layout of pages that are there, and that are not.
func TestMapsOnAllLayouts(t *testing.T) {
	for _, base := range bases() {
		for bits := range 1 << panes {
			prots := make([]int, panes)
			for k := range prots {
				prots[k] = bits >> k & 1 * (k%3 + 1)
			}
			x := layout(t, base, prots...)
			x.whole()
			for first := range uint64(panes) {
				for n := uint64(1); first+n <= panes; n++ {
					y := x.apart()
					y.lay(base+first*size, n*size, 4)
					y.whole()
				}
			}
			x.whole()
		}
	}
}

// TestMapsOfWildRanges: whatever is asked for, a window that is full but for one page takes what is just that page.
func TestMapsOfWildRanges(t *testing.T) {
	for _, base := range bases() {
		x := layout(t, base, 1, 3, 0, 5, 7, 2)
		for _, at := range edges(base) {
			for _, n := range []uint64{0, 1, size - 1, size, size + 1, top - size, top, top + size, 1 << 63, math.MaxUint64 - (size - 1), math.MaxUint64} {
				for _, prot := range []int{0, 1, 8} {
					y := x.apart()
					if at >= base && at-base < panes*size || x.w.mayLay(at, n, prot) != api.OK {
						y.lay(at, n, prot)
						y.whole()
					} else if err := y.s.Map(at, n, prot); err != api.OK || y.s.Pages() != x.s.Pages()+int(n/size) {
						t.Errorf("%x bytes at %x: %v", n, at, err)
					}
				}
			}
		}
		x.whole()
	}
}
