package space_test

import (
	"bytes"
	"math/rand/v2"
	"reflect"
	"slices"
	"testing"

	"clevis/api"
	"clevis/space"
)

// P7.3 (Dump, All, Copy, Same)

func TestPieces(t *testing.T) {
	for _, x := range []struct {
		what  string
		prots []int
		want  []head
	}{
		{"none", nil, nil},
		{"one page", []int{3}, []head{{0, 3, size}}},
		{"one page, not the first", []int{0, 0, 4}, []head{{2 * size, 4, size}}},
		{"pages that follow one another", []int{5, 5, 5}, []head{{0, 5, 3 * size}}},
		{"a gap", []int{1, 0, 1}, []head{{0, 1, size}, {2 * size, 1, size}}},
		{"another protection", []int{1, 3}, []head{{0, 1, size}, {size, 3, size}}},
		{"another one between", []int{1, 3, 1}, []head{{0, 1, size}, {size, 3, size}, {2 * size, 1, size}}},
		{"each of these", []int{7, 7, 0, 7, 2, 2}, []head{{0, 7, 2 * size}, {3 * size, 7, size}, {4 * size, 2, 2 * size}}},
	} {
		y := layout(t, 0, x.prots...)
		if got := heads(y.s.Dump()); !reflect.DeepEqual(got, x.want) {
			t.Errorf("%s: %v, want %v", x.what, got, x.want)
		}
		y.whole()
	}
}

// TestPiecesOfOneMap, and of several ones, are the same: what follows one another is one piece, however it was mapped.
func TestPiecesOfOneMap(t *testing.T) {
	a, b := space.New(), space.New()
	mapped(t, a, size, 4*size, 3)
	for _, k := range []uint64{4, 1, 3, 2} {
		mapped(t, b, k*size, size, 3)
	}
	if !reflect.DeepEqual(a.Dump(), b.Dump()) || len(b.Dump()) != 1 || !a.Same(b) {
		t.Errorf("%v, %v", heads(a.Dump()), heads(b.Dump()))
	}
}

// TestPiecesRise: pages that were mapped in any order, far from one another.
func TestPiecesRise(t *testing.T) {
	random := rand.New(rand.NewPCG(7, 3))
	s := space.New()
	var places []uint64
	for range 3000 {
		at := random.Uint64N(top/size) * size
		if s.Free(at-size, 3*size) && at != 0 {
			mapped(t, s, at, size, 2)
			s.Fill(at+8, []byte{byte(at >> 12)})
			places = append(places, at)
		}
	}
	mapped(t, s, 0, size, 2)
	places = append(places, 0)
	slices.Sort(places)
	var got []uint64
	for p := range s.All() {
		if p.Prot != 2 || len(p.Bytes) != size || p.Bytes[8] != byte(p.At>>12) {
			t.Fatalf("%v", heads([]api.Piece{p}))
		}
		got = append(got, p.At)
	}
	if !slices.Equal(got, places) || len(got) < 2900 {
		t.Errorf("%d pieces, want %d, rising", len(got), len(places))
	}
	if d := s.Dump(); !slices.IsSortedFunc(d, func(a, b api.Piece) int { return int(a.At/size) - int(b.At/size) }) || len(d) != len(places) {
		t.Errorf("%d pieces in the dump", len(d))
	}
}

func TestAllIsLeftAtAnyTime(t *testing.T) {
	x := layout(t, 0, 1, 3, 0, 5, 5, 1)
	want := x.s.Dump()
	all := x.s.All()
	for n := range len(want) + 1 {
		var got []api.Piece
		for p := range all {
			if len(got) == n {
				break
			}
			got = append(got, p)
		}
		if len(got) != n || n > 0 && !reflect.DeepEqual(got, want[:n]) {
			t.Errorf("left behind %d: %v", n, heads(got))
		}
	}
	for range 3 {
		if got := slices.Collect(all); !reflect.DeepEqual(got, want) {
			t.Errorf("gone through once more: %v", heads(got))
		}
	}
	x.whole()
}

// TestAllWithinAll: who goes over pieces may go over them.
func TestAllWithinAll(t *testing.T) {
	x := layout(t, 0, 1, 3, 0, 5)
	all := x.s.All()
	n := 0
	for p := range all {
		for q := range all {
			if q.At == p.At && !reflect.DeepEqual(p, q) {
				t.Errorf("%x: another piece", p.At)
			}
			n++
		}
	}
	if n != 9 {
		t.Errorf("%d pieces, want 9", n)
	}
}

// TestAllOfWhatIsThere: it goes over what is there when one begins, whatever is changed meanwhile.
func TestAllOfWhatIsThere(t *testing.T) {
	s := space.New()
	all := s.All()
	mapped(t, s, size, 2*size, 3)
	mapped(t, s, 8*size, size, 2)
	want := s.Dump()
	var got []api.Piece
	for p := range all {
		got = append(got, p)
		s.Map(uint64(len(got))*16*size, size, 1)
		s.Fill(8*size, []byte{9})
		p.Bytes[0] = 1
		s.Fill(size, []byte{7})
	}
	want[0].Bytes[0], want[1].Bytes[0] = 1, 1
	if !reflect.DeepEqual(got, want) || s.Pages() != 5 {
		t.Errorf("%v, and %d pages", heads(got), s.Pages())
	}
	if again := slices.Collect(all); !reflect.DeepEqual(again, s.Dump()) || len(again) != 4 || again[0].Bytes[0] != 7 {
		t.Errorf("gone over once more: %v", heads(again))
	}
	for range all {
		*s = space.Space{}
	}
	if s.Pages() != 0 || slices.Collect(all) != nil {
		t.Error("a space that was emptied meanwhile")
	}
}

func TestPiecesAreCopies(t *testing.T) {
	x := layout(t, 0, 3, 3, 1, 0, 2)
	spoil := func(l []api.Piece) {
		for i := range l {
			clear(l[i].Bytes)
			l[i].Bytes = append(l[i].Bytes, 1, 2, 3)
			l[i].At, l[i].Prot = 77, 77
		}
	}
	first, second := x.s.Dump(), x.s.Dump()
	spoil(first)
	if !reflect.DeepEqual(second, x.w.dump()) {
		t.Error("one dump changes with another")
	}
	all := x.s.All()
	spoil(slices.Collect(all))
	for p := range all {
		clear(p.Bytes)
	}
	x.whole()
	if !reflect.DeepEqual(slices.Collect(all), x.w.dump()) {
		t.Error("what is gone over changes with what was gone over")
	}
	kept := x.s.Dump()
	x.s.Fill(0, make([]byte, 3*size))
	if !reflect.DeepEqual(kept, x.w.dump()) {
		t.Error("a dump changes with the space")
	}
	// A piece may be made longer without writing into the next one.
	l := x.s.Dump()
	want := bytes.Clone(l[1].Bytes)
	l[0].Bytes = append(l[0].Bytes, numbered(size, 9)...)
	if !bytes.Equal(l[1].Bytes, want) {
		t.Error("pieces share memory")
	}
}

func TestCopyGoesOnApart(t *testing.T) {
	x := layout(t, 0, 3, 1, 0, 7)
	y := x.apart()
	if !x.s.Same(y.s) || !y.s.Same(x.s) {
		t.Fatal("a copy is another one")
	}
	y.whole()
	y.write(5, []byte{1, 2, 3})
	y.fill(size, []byte{0, 0})
	y.lay(2*size, size, 2)
	y.whole()
	x.whole()
	x.lay(4*size, 2*size, 6)
	x.setWord(size-8, 12)
	x.fill(3*size, numbered(3*size, 5))
	x.whole()
	y.whole()
	z := x.apart().apart()
	z.fill(0, numbered(9, 9))
	z.whole()
	x.whole()
	c := space.New().Copy()
	if c == nil || c.Pages() != 0 {
		t.Fatal("a copy of one without pages")
	}
	mapped(t, c, 0, size, 1)
}

func TestSame(t *testing.T) {
	var zero, other space.Space
	one := func(at, n uint64, prot int, fill ...byte) *space.Space {
		s := space.New()
		mapped(t, s, at, n, prot)
		s.Fill(at+n-uint64(len(fill)), fill)
		return s
	}
	l := []*space.Space{
		nil, space.New(), one(0, size, 3), one(0, size, 1), one(0, size, 2), one(0, size, 7), one(size, size, 3), one(0, 2*size, 3), one(0, size, 3, 1), one(0, size, 3, 1, 0), one(0, size, 3, 2),
		one(0, 2*size, 3, 1), one(top-size, size, 3), one(0, 8192*size, 3), one(0, 8192*size, 3, 1),
	}
	for i, a := range l {
		for k, b := range l {
			if a.Same(b) != (i == k) {
				t.Errorf("%d and %d: %v", i, k, a.Same(b))
			}
		}
		if c := a.Copy(); !a.Same(c) || !c.Same(a) || (c == nil) != (a == nil) {
			t.Errorf("%d and its copy", i)
		}
	}
	if !zero.Same(space.New()) || !space.New().Same(&zero) || !zero.Same(&other) || zero.Same(nil) || (*space.Space)(nil).Same(&zero) {
		t.Error("a zero one is one without pages")
	}
	emptied := one(0, size, 3)
	*emptied = space.Space{}
	if !emptied.Same(&zero) {
		t.Error("one that was emptied")
	}
	// Written, and written back, it is the same.
	a, b := one(0, 2*size, 3, 5, 6), one(0, 2*size, 3, 5, 6)
	a.SetWord(size-3, 77)
	if a.Same(b) || b.Same(a) {
		t.Error("another word")
	}
	a.SetWord(size-3, 0)
	if !a.Same(b) {
		t.Error("the word that was")
	}
}

// TestSameOfAllLayouts: two layouts are the same just if their dumps are.
func TestSameOfAllLayouts(t *testing.T) {
	var l []*space.Space
	for _, prots := range rows(2, 0, 1, 3, 7) {
		x := layout(t, 0, prots...)
		y := x.apart()
		y.fill(2*size, []byte{0})
		l = append(l, x.s, y.s)
	}
	for _, a := range l {
		for _, b := range l {
			if a.Same(b) != reflect.DeepEqual(a.Dump(), b.Dump()) {
				t.Fatalf("%v and %v: %v", heads(a.Dump()), heads(b.Dump()), a.Same(b))
			}
		}
	}
}
