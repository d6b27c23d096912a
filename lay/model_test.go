package lay_test

import (
	"bytes"
	"reflect"
	"slices"
	"testing"

	"clevis/api"
	"clevis/image"
	"clevis/lay"
	"clevis/space"
)

// What the chapter says of images in memory, once more, page by page and byte by byte, so that the calls can be held against it.

const (
	size = 4096    // of a page
	step = 16384   // what places are multiples of
	top  = 1 << 47 // what nothing goes beyond
	most = 8192    // pages
)

// atMost: is the sum of l, as a number without bound, at most that?
func atMost(most uint64, l ...uint64) bool {
	for _, n := range l {
		if n > most {
			return false
		}
		most -= n
	}
	return true
}

func hole(s api.Segment) bool { return s.Prot == 0 && s.FileSize == 0 }

// ends are an image's low and high.
func ends(m api.Image) (uint64, uint64) {
	var low, high []uint64
	for _, s := range m.Segments {
		if !hole(s) {
			low, high = append(low, s.Addr), append(high, s.Addr+s.Size)
		}
	}
	if len(low) == 0 {
		return 0, 0
	}
	return low[0], slices.Max(high)
}

// stepped is the least multiple of Step that is n or more.
func stepped(n uint64) uint64 {
	if n%step == 0 {
		return n
	}
	return n - n%step + step
}

func wantSlides(base uint64, l []api.Image) ([]uint64, int, api.Errno) {
	if len(l) == 0 || base%step != 0 || base > top {
		return nil, 0, api.ErrArg
	}
	var slides []uint64
	place := base
	for i, m := range l {
		low, high := ends(m)
		if low >= high {
			return nil, i, api.ErrSegment
		}
		if i == 0 && m.Kind == 2 && m.Flags&0x200000 == 0 {
			if high > top {
				return nil, i, api.ErrRoom
			}
			slides = append(slides, 0)
			place = max(base, stepped(high))
			continue
		}
		if !atMost(top, place, high-low) {
			return nil, i, api.ErrRoom
		}
		slides = append(slides, place-low)
		place += stepped(high - low)
	}
	return slides, 0, api.OK
}

// leaf is a page of a model.
type leaf struct {
	prot  int
	bytes [size]byte
}

// book is a model of a space: by the pages' addresses.
type book map[uint64]leaf

// opened is a space's book.
func opened(s *space.Space) book {
	b := book{}
	for _, p := range s.Dump() {
		for k := 0; k < len(p.Bytes); k += size {
			b[p.At+uint64(k)] = leaf{p.Prot, [size]byte(p.Bytes[k:])}
		}
	}
	return b
}

// shut are a book's pieces.
func (b book) shut() []api.Piece {
	var at []uint64
	for n := range b {
		at = append(at, n)
	}
	slices.Sort(at)
	var l []api.Piece
	for _, n := range at {
		x := b[n]
		if k := len(l) - 1; k >= 0 && l[k].Prot == x.prot && l[k].At+uint64(len(l[k].Bytes)) == n {
			l[k].Bytes = append(l[k].Bytes, x.bytes[:]...)
			continue
		}
		l = append(l, api.Piece{At: n, Prot: x.prot, Bytes: slices.Clone(x.bytes[:])})
	}
	return l
}

// touched are the first page's number and that behind the last one's, of a range that has bytes.
func touched(at, n uint64) (uint64, uint64) {
	return at / size, (at+n-1)/size + 1
}

// meet: do two ranges, both within MaxAddress, have a page that is the same?
func meet(at, n, other, m uint64) bool {
	if n == 0 || m == 0 {
		return false
	}
	a, b := touched(at, n)
	c, d := touched(other, m)
	return a < d && c < b
}

func (b book) wantFits(m api.Image, slide uint64) api.Errno {
	if slide%size != 0 {
		return api.ErrArg
	}
	var l []api.Segment
	for _, s := range m.Segments {
		if !hole(s) {
			s.Addr += slide
			l = append(l, s)
		}
	}
	for _, s := range l {
		if !atMost(top, s.Addr, s.Size) {
			return api.ErrRange
		}
	}
	for i, s := range l {
		for at := range b {
			if meet(s.Addr, s.Size, at, size) {
				return api.ErrTwice
			}
		}
		for _, ahead := range l[:i] {
			if meet(s.Addr, s.Size, ahead.Addr, ahead.Size) {
				return api.ErrTwice
			}
		}
	}
	pages := uint64(len(b))
	for _, s := range l {
		if s.Size != 0 {
			from, to := touched(s.Addr, s.Size)
			pages += to - from
		}
	}
	if pages > most {
		return api.ErrMany
	}
	return api.OK
}

// lay lays an image, as Lay does.
func (b book) lay(slice []byte, slide uint64) api.Errno {
	if slide%size != 0 {
		return api.ErrArg
	}
	m, err := image.Of(slice)
	if err != api.OK {
		return err
	}
	if err := b.wantFits(m, slide); err != api.OK {
		return err
	}
	for _, s := range m.Segments {
		for k := uint64(0); !hole(s) && k < s.Size; k += size {
			x := leaf{prot: s.Prot}
			for i := range x.bytes {
				if n := k + uint64(i); n < s.FileSize {
					x.bytes[i] = slice[s.Off+n]
				}
			}
			b[s.Addr+slide+k] = x
		}
	}
	return api.OK
}

// checkSlides holds Slides of any images, which are to stay as they are, against what is wanted.
func checkSlides(t *testing.T, base uint64, l ...api.Image) {
	t.Helper()
	want, wantAt, wantErr := wantSlides(base, l)
	got, at, err := lay.Slides(base, l...)
	if !slices.Equal(got, want) || at != wantAt || err != wantErr {
		t.Fatalf("Slides from %x of %+v: %x, %d (%v), want %x, %d (%v)", base, l, got, at, err, want, wantAt, wantErr)
	}
}

// checkFits holds Fits of any image in a space, which is to stay as it is, against what is wanted.
func checkFits(t *testing.T, s *space.Space, m api.Image, slide uint64) {
	t.Helper()
	before := s.Copy()
	if err, want := lay.Fits(s, m, slide), opened(s).wantFits(m, slide); err != want {
		t.Fatalf("Fits of %+v by %x: %v, want %v", m, slide, err, want)
	}
	if !s.Same(before) {
		t.Fatalf("Fits of %+v by %x changed the space", m, slide)
	}
}

// checkLay holds Lay of any bytes against what is wanted, and answers what it answered. The bytes are to stay as they are, and so is the space, where it is refused.
func checkLay(t *testing.T, s *space.Space, slice []byte, slide uint64) api.Errno {
	t.Helper()
	was, bytesWere := s.Copy(), bytes.Clone(slice)
	b := opened(s)
	want := b.lay(slice, slide)
	if m, err := image.Of(slice); err == api.OK {
		checkFits(t, s, m, slide)
	}
	err := lay.Lay(s, slice, slide)
	if err != want {
		t.Fatalf("Lay by %x: %v, want %v", slide, err, want)
	}
	if err != api.OK && !s.Same(was) {
		t.Fatalf("Lay by %x was refused (%v), and changed the space", slide, err)
	}
	if got := s.Dump(); !reflect.DeepEqual(got, b.shut()) {
		t.Fatalf("Lay by %x: the memory is %v, want %v", slide, heads(got), heads(b.shut()))
	}
	if !bytes.Equal(slice, bytesWere) {
		t.Fatal("what was handed in was changed")
	}
	return err
}

// head is a piece, but for its bytes.
type head struct {
	at   uint64
	size int
	prot int
}

func heads(l []api.Piece) []head {
	var h []head
	for _, p := range l {
		h = append(h, head{p.At, len(p.Bytes), p.Prot})
	}
	return h
}
