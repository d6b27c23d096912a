package space_test

import (
	"bytes"
	"math"
	"testing"

	"clevis/api"
	"clevis/space"
)

// P7.2 (Fill, Write, Read, Word, SetWord)

func TestWordsAcrossPages(t *testing.T) {
	s := space.New()
	mapped(t, s, size, 2*size, 3)
	const n = 0x8877665544332211
	if err := s.SetWord(2*size-4, n); err != api.OK {
		t.Fatal(err)
	}
	if got, err := s.Word(2*size - 4); got != n || err != api.OK {
		t.Errorf("%x (%v)", got, err)
	}
	if b, err := s.Read(2*size-5, 10); !bytes.Equal(b, []byte{0, 0x11, 0x22, 0x33, 0x44, 0x55, 0x66, 0x77, 0x88, 0}) || err != api.OK {
		t.Errorf("%x (%v)", b, err)
	}
	for _, x := range []struct {
		at   uint64
		want uint64
	}{{2*size - 12, 0}, {2*size - 5, 0x7766554433221100}, {2*size - 3, 0x88776655443322}, {2 * size, 0x88776655}, {2*size + 4, 0}} {
		if got, err := s.Word(x.at); got != x.want || err != api.OK {
			t.Errorf("at %x: %x (%v), want %x", x.at, got, err, x.want)
		}
	}
}

func TestTheChaptersExamples(t *testing.T) {
	s := space.New()
	mapped(t, s, 4096, 8192, 3)
	if err := s.SetWord(8188, 1<<63+5); err != api.OK {
		t.Error(err)
	}
	if n, err := s.Word(8188); n != 1<<63+5 || err != api.OK {
		t.Errorf("%x (%v)", n, err)
	}
	if err := s.Write(4094, []byte{1}); err != api.ErrRange {
		t.Error(err)
	}
}

// TestWhatProtectionsLet: who may write is asked for 2, who may read for 1, who fills for nothing.
func TestWhatProtectionsLet(t *testing.T) {
	for prot := 1; prot <= 7; prot++ {
		read, write := api.ErrProt, api.ErrProt
		if prot == 1 || prot == 3 || prot == 5 || prot == 7 {
			read = api.OK
		}
		if prot == 2 || prot == 3 || prot == 6 || prot == 7 {
			write = api.OK
		}
		s := space.New()
		mapped(t, s, 0, size, prot)
		if err := s.Fill(0, []byte{1, 2, 3, 4, 5, 6, 7, 8, 9}); err != api.OK {
			t.Errorf("Fill of %d: %v", prot, err)
		}
		b, err := s.Read(1, 8)
		if err != read || (len(b) == 8) != (read == api.OK) {
			t.Errorf("Read of %d: %v (%v)", prot, b, err)
		}
		n, err := s.Word(1)
		if err != read || (n == 0x0908070605040302) != (read == api.OK) || err != api.OK && n != 0 {
			t.Errorf("Word of %d: %x (%v)", prot, n, err)
		}
		if err := s.Write(0, []byte{7}); err != write {
			t.Errorf("Write of %d: %v", prot, err)
		}
		if err := s.SetWord(8, 1); err != write {
			t.Errorf("SetWord of %d: %v", prot, err)
		}
		want := []byte{1, 2, 3, 4, 5, 6, 7, 8, 9}
		if write == api.OK {
			want = []byte{7, 2, 3, 4, 5, 6, 7, 8, 1}
		}
		if got := s.Dump()[0].Bytes; !bytes.HasPrefix(got, want) || len(bytes.Trim(got[9:], "\x00")) != 0 {
			t.Errorf("protection %d: %v", prot, got[:16])
		}
	}
}

// TestARefusalWritesNothing: what is refused at its last byte alone, too.
func TestARefusalWritesNothing(t *testing.T) {
	s := space.New()
	mapped(t, s, 0, 2*size, 3)
	mapped(t, s, 2*size, size, 1)
	mapped(t, s, 4*size, size, 2)
	mapped(t, s, top-size, size, 3)
	before := s.Copy()
	for _, x := range []struct {
		what  string
		at, n uint64
		want  api.Errno
	}{
		{"the last byte may not be written", 0, 2*size + 1, api.ErrProt},
		{"the first byte may not be written", 3*size - 1, 1, api.ErrProt},
		{"the last byte is not there", size, 2*size + 1, api.ErrRange},
		{"the first byte is not there", 4*size - 1, 2, api.ErrRange},
		{"bytes in the midst are not there", 3*size - 5, size + 10, api.ErrRange},
		{"one may not be written, a later one is not there", 3*size - 1, 2, api.ErrRange},
		{"beyond MaxAddress", top - 1, 2, api.ErrRange},
		{"at MaxAddress", top, 1, api.ErrRange},
		{"beyond 2^64, and round to where pages are", math.MaxUint64 - 3, 8, api.ErrRange},
		{"the greatest place", math.MaxUint64, 1, api.ErrRange},
	} {
		if err := s.Write(x.at, numbered(int(x.n), 1)); err != x.want {
			t.Errorf("%s: Write: %v, want %v", x.what, err, x.want)
		}
		if x.n == 8 {
			if err := s.SetWord(x.at, math.MaxUint64); err != x.want {
				t.Errorf("%s: SetWord: %v", x.what, err)
			}
		}
		if x.want == api.ErrRange {
			if err := s.Fill(x.at, numbered(int(x.n), 1)); err != x.want {
				t.Errorf("%s: Fill: %v", x.what, err)
			}
		}
		if !s.Same(before) {
			t.Fatalf("%s: it was refused, and changed something", x.what)
		}
	}
}

func TestOfNoBytes(t *testing.T) {
	var zero space.Space
	some := space.New()
	mapped(t, some, size, size, 1)
	mapped(t, some, 2*size, size, 2)
	before := some.Copy()
	for _, s := range []*space.Space{&zero, some} {
		for _, at := range edges(size) {
			for _, b := range [][]byte{nil, {}, numbered(3, 0)[:0]} {
				if err := s.Fill(at, b); err != api.OK {
					t.Errorf("Fill at %x: %v", at, err)
				}
				if err := s.Write(at, b); err != api.OK {
					t.Errorf("Write at %x: %v", at, err)
				}
			}
			if b, err := s.Read(at, 0); len(b) != 0 || err != api.OK {
				t.Errorf("Read at %x: %v (%v)", at, b, err)
			}
		}
	}
	if !some.Same(before) || zero.Pages() != 0 {
		t.Error("no bytes changed something")
	}
}

func TestReadOfAsMuchAsMayBe(t *testing.T) {
	const most = 1 << 20
	s := space.New()
	mapped(t, s, 0, most+size, 1)
	mapped(t, s, 1<<30, most+size, 2)
	if err := s.Fill(5, numbered(most, 3)); err != api.OK {
		t.Fatal(err)
	}
	if b, err := s.Read(5, most); !bytes.Equal(b, numbered(most, 3)) || err != api.OK {
		t.Errorf("as much as may be: %v", err)
	}
	for _, x := range []struct {
		what  string
		at, n uint64
		want  api.Errno
	}{
		{"one byte more", 5, most + 1, api.ErrRange},
		{"one byte more, up to the pages' end", size - 1, most + 1, api.ErrRange},
		{"one byte more, that may not be read", 1 << 30, most + 1, api.ErrRange},
		{"as much, that may not be read", 1 << 30, most, api.ErrProt},
		{"as much, that goes beyond the pages", size + 1, most, api.ErrRange},
		{"all", 0, top, api.ErrRange},
		{"the greatest size", 0, math.MaxUint64, api.ErrRange},
		{"the greatest size that doesn't go round", 5, math.MaxUint64 - 5, api.ErrRange},
		{"one that goes round to 1 byte", size, 1<<64 - size + 1, api.ErrRange},
	} {
		if b, err := s.Read(x.at, x.n); b != nil || err != x.want {
			t.Errorf("%s: %d bytes (%v)", x.what, len(b), err)
		}
	}
}

// TestWritesOfMoreThanIsRead: MaxFile is the bound of what is read in one call, not of what is written.
func TestWritesOfMoreThanIsRead(t *testing.T) {
	const n = 1<<20 + 2*size + 10
	s := space.New()
	mapped(t, s, 0, 1<<20+4*size, 7)
	if err := s.Fill(size-5, numbered(n, 1)); err != api.OK {
		t.Error(err)
	}
	if err := s.Write(size-4, numbered(n, 2)); err != api.OK {
		t.Error(err)
	}
	got := s.Dump()[0].Bytes
	if got[size-6] != 0 || got[size-5] != numbered(1, 1)[0] || !bytes.Equal(got[size-4:][:n], numbered(n, 2)) || got[size-4+n] != 0 {
		t.Error("other bytes than were written")
	}
}

func TestBytesAreNotShared(t *testing.T) {
	s := space.New()
	mapped(t, s, 0, 2*size, 3)
	b := numbered(20, 0)
	s.Fill(10, b)
	s.Write(size-10, b)
	before := s.Copy()
	if !bytes.Equal(b, numbered(20, 0)) {
		t.Error("what was handed in was changed")
	}
	clear(b)
	if !s.Same(before) {
		t.Error("the space changes with what was handed in")
	}
	for _, at := range []uint64{10, size - 10, 0} {
		first, _ := s.Read(at, 20)
		second, _ := s.Read(at, 20)
		want := bytes.Clone(second)
		clear(first)
		if !s.Same(before) || !bytes.Equal(second, want) {
			t.Errorf("at %x: the space, or another answer, changes with what was read", at)
		}
	}
}

// rows are all rows of so many protections, from 0 on, of a window's second page on.
func rows(n int, prots ...int) [][]int {
	l := [][]int{{0}}
	for range n {
		var next [][]int
		for _, row := range l {
			for _, prot := range prots {
				next = append(next, append(row[:len(row):len(row)], prot))
			}
		}
		l = next
	}
	return l
}

// TestCallsOnAllLayouts: of each two and three protections beside one another each range, from each edge on.
func TestCallsOnAllLayouts(t *testing.T) {
	layouts := append(rows(2, 0, 1, 2, 3, 4, 5, 6, 7), rows(3, 0, 1, 2, 3)...)
	for i, prots := range layouts {
		base := bases()[i%3]
		x := layout(t, base, prots...)
		for _, at := range edges(base) {
			for _, n := range lengths() {
				x.asks(at, n)
				b := numbered(int(n), i)
				x.write(at, b)
				x.fill(at, b)
			}
			x.setWord(at, math.MaxUint64-uint64(i))
			x.whole()
		}
	}
}
