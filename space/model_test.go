package space_test

import (
	"bytes"
	"math"
	"reflect"
	"slices"
	"testing"

	"clevis/api"
	"clevis/space"
)

// What the chapter says of spaces, once more, byte by byte, so that the calls can be held against it: of a window of few pages, outside which nothing is there.

const (
	size  = 4096    // of a page
	top   = 1 << 47 // what no page goes beyond
	panes = 6       // how many pages a window has
)

// window is a model of a space. A page of protection 0 is not there.
type window struct {
	base  uint64
	prots [panes]int
	bytes [panes * size]byte
}

// atMost: is the sum of l, as a number without bound, at most that?
func atMost(most uint64, l ...uint64) bool {
	for _, n := range l {
		if n > most {
			return false
		}
		most -= n
	}
	return true
}

// prot is a byte's protection; 0 where it is not there.
func (w *window) prot(at uint64) int {
	if at < w.base || at-w.base >= panes*size {
		return 0
	}
	return w.prots[(at-w.base)/size]
}

func (w *window) pages() int {
	n := 0
	for _, prot := range w.prots {
		if prot != 0 {
			n++
		}
	}
	return n
}

// free: has a range no byte that is there? A range may be far longer than the window, whose bytes are gone over then.
func (w *window) free(at, n uint64) bool {
	if n == 0 {
		return true
	}
	if !atMost(top, at, n) {
		return false
	}
	for k, prot := range w.prots {
		first := w.base + uint64(k)*size
		for b := first; prot != 0 && b < first+size; b++ {
			if b >= at && b-at < n {
				return false
			}
		}
	}
	return true
}

// mayLay is what Map answers.
func (w *window) mayLay(at, n uint64, prot int) api.Errno {
	if at&(size-1) != 0 || n&(size-1) != 0 || n == 0 || prot < 1 || prot > 7 {
		return api.ErrArg
	}
	if !atMost(top, at, n) {
		return api.ErrRange
	}
	if !w.free(at, n) {
		return api.ErrTwice
	}
	if uint64(w.pages())+n/size > 8192 {
		return api.ErrMany
	}
	return api.OK
}

// lay lays pages of the window, where Map does.
func (w *window) lay(at, n uint64, prot int) api.Errno {
	err := w.mayLay(at, n, prot)
	for b := uint64(0); err == api.OK && b < n; b++ {
		k := at + b - w.base
		w.prots[k/size], w.bytes[k] = prot, 0
	}
	return err
}

// may is what a call answers that asks for all of these bits of each byte of a range.
func (w *window) may(at, n uint64, bits int) api.Errno {
	if n == 0 {
		return api.OK
	}
	if !atMost(top, at, n) {
		return api.ErrRange
	}
	err := api.OK
	for b := uint64(0); b < n; b++ {
		prot := w.prot(at + b)
		if prot == 0 {
			return api.ErrRange
		}
		if prot&bits != bits {
			err = api.ErrProt
		}
	}
	return err
}

func (w *window) put(at uint64, b []byte, bits int) api.Errno {
	err := w.may(at, uint64(len(b)), bits)
	if err == api.OK && len(b) > 0 {
		copy(w.bytes[at-w.base:], b)
	}
	return err
}

func (w *window) read(at, n uint64) ([]byte, api.Errno) {
	if n > 1<<20 {
		return nil, api.ErrRange
	}
	err := w.may(at, n, 1)
	if err != api.OK || n == 0 {
		return nil, err
	}
	return w.bytes[at-w.base:][:n], api.OK
}

func (w *window) word(at uint64) (uint64, api.Errno) {
	b, err := w.read(at, 8)
	var n uint64
	for i := len(b) - 1; i >= 0; i-- {
		n = n*256 + uint64(b[i])
	}
	return n, err
}

func (w *window) setWord(at, n uint64) api.Errno {
	var b []byte
	for range 8 {
		b = append(b, byte(n%256))
		n /= 256
	}
	return w.put(at, b, 2)
}

func (w *window) dump() []api.Piece {
	var l []api.Piece
	for k, prot := range w.prots {
		page := w.bytes[k*size:][:size]
		switch {
		case prot == 0:
		case k > 0 && w.prots[k-1] == prot:
			l[len(l)-1].Bytes = append(l[len(l)-1].Bytes, page...)
		default:
			l = append(l, api.Piece{At: w.base + uint64(k)*size, Prot: prot, Bytes: bytes.Clone(page)})
		}
	}
	return l
}

// both are a space and its model: a call goes to both, and is answered alike.
type both struct {
	t *testing.T
	s *space.Space
	w *window
}

// layout is a space with pages of these protections from a base on (0: none is there), all of whose bytes differ from their neighbours.
func layout(t *testing.T, base uint64, prots ...int) both {
	t.Helper()
	x := both{t, space.New(), &window{base: base}}
	for k, prot := range prots {
		if prot != 0 {
			x.lay(base+uint64(k)*size, size, prot)
			x.fill(base+uint64(k)*size, numbered(size, k))
		}
	}
	return x
}

// numbered are bytes that are not 0, and go on otherwise from each start.
func numbered(n, start int) []byte {
	b := make([]byte, n)
	for i := range b {
		b[i] = byte(1 + (i*7+start*31)%255)
	}
	return b
}

// apart is a copy, to be changed without this one.
func (x both) apart() both {
	w := *x.w
	return both{x.t, x.s.Copy(), &w}
}

func (x both) answer(what string, at, n uint64, got, want api.Errno) {
	x.t.Helper()
	if got != want {
		x.t.Fatalf("%s at %x, of %x: %v, want %v (protections from %x on: %v)", what, at, n, got, want, x.w.base, x.w.prots)
	}
}

func (x both) lay(at, n uint64, prot int) {
	x.t.Helper()
	want := x.w.lay(at, n, prot)
	x.answer("Map", at, n, x.s.Map(at, n, prot), want)
}

func (x both) fill(at uint64, b []byte) {
	x.t.Helper()
	x.answer("Fill", at, uint64(len(b)), x.s.Fill(at, b), x.w.put(at, b, 0))
}

func (x both) write(at uint64, b []byte) {
	x.t.Helper()
	x.answer("Write", at, uint64(len(b)), x.s.Write(at, b), x.w.put(at, b, 2))
}

func (x both) setWord(at, n uint64) {
	x.t.Helper()
	x.answer("SetWord", at, n, x.s.SetWord(at, n), x.w.setWord(at, n))
}

func (x both) read(at, n uint64) {
	x.t.Helper()
	want, wantErr := x.w.read(at, n)
	b, err := x.s.Read(at, n)
	x.answer("Read", at, n, err, wantErr)
	if !bytes.Equal(b, want) {
		x.t.Fatalf("Read of %x bytes at %x: other bytes than are there", n, at)
	}
}

func (x both) word(at uint64) {
	x.t.Helper()
	want, wantErr := x.w.word(at)
	n, err := x.s.Word(at)
	x.answer("Word", at, 8, err, wantErr)
	if n != want {
		x.t.Fatalf("Word at %x: %x, want %x", at, n, want)
	}
}

// asks makes all calls that change nothing, of a range.
func (x both) asks(at, n uint64) {
	x.t.Helper()
	x.read(at, n)
	x.word(at)
	if prot := x.s.Prot(at); prot != x.w.prot(at) {
		x.t.Fatalf("Prot at %x: %d, want %d", at, prot, x.w.prot(at))
	}
	if is := x.s.Free(at, n); is != x.w.free(at, n) {
		x.t.Fatalf("Free of %x bytes at %x: %v (protections from %x on: %v)", n, at, is, x.w.base, x.w.prots)
	}
}

// whole holds all of a space against its model.
func (x both) whole() {
	x.t.Helper()
	want := x.w.dump()
	if got := x.s.Dump(); !reflect.DeepEqual(got, want) {
		x.t.Fatalf("the dump (%v) is another one than %v", heads(got), heads(want))
	}
	if got := slices.Collect(x.s.All()); !reflect.DeepEqual(got, want) {
		x.t.Fatalf("the pieces gone over (%v) are other ones than %v", heads(got), heads(want))
	}
	if n := x.s.Pages(); n != x.w.pages() {
		x.t.Fatalf("%d pages, want %d", n, x.w.pages())
	}
}

// head is a piece without its bytes.
type head struct {
	at   uint64
	prot int
	size int
}

func heads(l []api.Piece) []head {
	var told []head
	for _, p := range l {
		told = append(told, head{p.At, p.Prot, len(p.Bytes)})
	}
	return told
}

// bases are where windows stand: at the lowest address, in the midst, and just below MaxAddress.
func bases() []uint64 {
	return []uint64{0, 1 << 32, top - panes*size}
}

// edges are addresses at which pages of a window begin, those beside them, and far ones.
func edges(base uint64) []uint64 {
	l := []uint64{0, 1, top - size, top - 8, top - 1, top, top + 1, top + size, 1 << 63, math.MaxUint64 - 8, math.MaxUint64 - 7, math.MaxUint64}
	for k := range uint64(panes + 2) {
		for _, d := range []uint64{0, 1, 7, 8, 9, 2048} {
			l = append(l, base+(k-1)*size+d, base+(k-1)*size-d)
		}
	}
	slices.Sort(l)
	return slices.Compact(l)
}

// lengths are how many bytes a range has.
func lengths() []uint64 {
	return []uint64{0, 1, 2, 8, size - 1, size, size + 1, 2 * size, 3*size + 5, panes * size}
}
