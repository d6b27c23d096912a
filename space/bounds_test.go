package space_test

import (
	"math"
	"slices"
	"testing"

	"clevis/api"
	"clevis/space"
)

// P7.4 and P0.3 (what follows, within bounds)

func TestWhatWasNeverWrittenIsNought(t *testing.T) {
	s := space.New()
	mapped(t, s, 0, 3*size, 7)
	mapped(t, s, top-size, size, 1)
	for p := range s.All() {
		if slices.ContainsFunc(p.Bytes, func(b byte) bool { return b != 0 }) {
			t.Errorf("%v is not noughts", heads([]api.Piece{p}))
		}
	}
	s.Fill(size, numbered(size, 0))
	for _, at := range []uint64{0, size - 8, 2 * size, 3*size - 8, top - size, top - 8} {
		if n, err := s.Word(at); n != 0 || err != api.OK {
			t.Errorf("at %x: %x (%v)", at, n, err)
		}
	}
}

func TestWhatWasWrittenLastIsRead(t *testing.T) {
	x := layout(t, 1<<32, 3, 7, 3, 0, 3)
	for i := range 60 {
		at := x.w.base + uint64(i*211)
		x.write(at, numbered(i*37+1, i))
		x.read(at, uint64(i*37+1))
		x.fill(at+5, numbered(i, i+1))
		x.setWord(at+11, uint64(i)<<56+uint64(i))
		x.word(at + 11)
		x.read(x.w.base, 3*size)
		x.whole()
	}
}

// TestPagesAreReadAcross: pages that follow one another are read as one, whatever their protections are, if they may be read.
func TestPagesAreReadAcross(t *testing.T) {
	x := layout(t, top-panes*size, 1, 3, 5, 7, 1, 1)
	for at := x.w.base; at < top; at += 509 {
		for n := uint64(0); n <= top-at; n += 1021 {
			x.read(at, n)
		}
		x.read(at, top-at)
		x.read(at, top-at+1)
	}
}

// TestLinesOfCalls: random lines of calls, always the same ones.
func TestLinesOfCalls(t *testing.T) {
	seed := uint64(1)
	next := func(n uint64) uint64 {
		seed = seed*6364136223846793005 + 1442695040888963407
		return seed >> 33 % n
	}
	for i := range 60 {
		base := bases()[i%3]
		x := layout(t, base)
		for range 60 {
			x = step(x, func() byte { return byte(next(256)) })
		}
		x.whole()
	}
}

// step makes one call, that bytes tell, and answers what is gone on with.
func step(x both, next func() byte) both {
	x.t.Helper()
	wide := func() uint64 { return uint64(next()) | uint64(next())<<8 }
	call, at, n := next()%9, x.w.base+wide()%(panes*size+64)-32, wide()%(2*size)
	switch call {
	case 0:
		first := uint64(next() % panes)
		x.lay(x.w.base+first*size, (uint64(next())%(panes-first)+1)*size, int(next()%9))
	case 1:
		x.fill(at, numbered(int(n), int(next())))
	case 2:
		x.write(at, numbered(int(n), int(next())))
	case 3:
		x.setWord(at, wide()<<48|wide())
	case 4:
		x.asks(at, n)
	case 5:
		y := x.apart()
		y.fill(at, numbered(int(n), int(next())))
		x.whole()
		y.whole()
		return y
	case 6:
		x.whole()
	case 7:
		y := x.apart()
		y.write(at, numbered(int(n%64), int(next())))
		if same := x.s.Same(y.s); same != (x.w.prots == y.w.prots && x.w.bytes == y.w.bytes) {
			x.t.Fatalf("Same: %v", same)
		}
	case 8:
		x.asks(at-at%size, n-n%size)
	}
	return x
}

func FuzzSpace(f *testing.F) {
	f.Add(byte(0), []byte{0, 0, 0, 0, 0, 0, 5, 3, 2, 10, 16, 100, 1, 7, 4, 0, 16, 0, 16})
	f.Add(byte(2), []byte{0, 0, 0, 0, 0, 4, 1, 1, 3, 252, 79, 0, 0, 1, 2, 3, 4, 5, 255, 255, 9, 9, 9, 7, 0, 0, 9, 0, 1})
	f.Fuzz(func(t *testing.T, where byte, l []byte) {
		x := layout(t, bases()[where%3])
		for len(l) > 0 {
			x = step(x, func() byte {
				if len(l) == 0 {
					return 0
				}
				b := l[0]
				l = l[1:]
				return b
			})
		}
		x.whole()
	})
}

func TestNilSpace(t *testing.T) {
	var s *space.Space
	for _, at := range edges(0) {
		for _, n := range append(lengths(), 1<<20+1, top, math.MaxUint64) {
			for _, prot := range []int{math.MinInt, 0, 1, 8} {
				if err := s.Map(at, n, prot); err != api.ErrNil {
					t.Fatalf("Map: %v", err)
				}
			}
			if b, err := s.Read(at, n); b != nil || err != api.ErrNil {
				t.Fatalf("Read: %v (%v)", b, err)
			}
			if is := s.Free(at, n); is != (n == 0 || atMost(top, at, n)) {
				t.Fatalf("Free of %x bytes at %x: %v", n, at, is)
			}
		}
		for _, b := range [][]byte{nil, {}, {1}} {
			if err := s.Fill(at, b); err != api.ErrNil {
				t.Fatalf("Fill: %v", err)
			}
			if err := s.Write(at, b); err != api.ErrNil {
				t.Fatalf("Write: %v", err)
			}
		}
		if n, err := s.Word(at); n != 0 || err != api.ErrNil {
			t.Fatalf("Word: %x (%v)", n, err)
		}
		if err := s.SetWord(at, 1); err != api.ErrNil {
			t.Fatalf("SetWord: %v", err)
		}
		if s.Prot(at) != 0 {
			t.Fatalf("Prot: %d", s.Prot(at))
		}
	}
	if s.Pages() != 0 || s.Dump() != nil || s.Copy() != nil || slices.Collect(s.All()) != nil {
		t.Error("a nil space has something")
	}
	if !s.Same(nil) || s.Same(space.New()) || space.New().Same(s) {
		t.Error("a nil space is the same as another nil one alone")
	}
}

// TestExtremes: all calls end, whatever numbers they get, of a space without pages, of one with few, and of a full one.
func TestExtremes(t *testing.T) {
	few, full := space.New(), space.New()
	mapped(t, few, 0, size, 3)
	mapped(t, few, top-size, size, 3)
	for k := range uint64(2) {
		mapped(t, full, k*(top-4096*size), 4096*size, 3)
	}
	ends := []uint64{0, 1, size, 8191 * size, 8192 * size, 8193 * size, 1 << 20, 1 << 40, top - size, top - 1, top, top + 1, 1 << 63, math.MaxUint64 - (size - 1), math.MaxUint64}
	for _, s := range []*space.Space{space.New(), few, full} {
		before := s.Copy()
		for _, at := range ends {
			for _, n := range ends {
				for range 200 {
					s.Free(at, n)
				}
				s.Read(at, n)
				// Left with what was, where it was laid.
				if err := s.Map(at, n, 8); err == api.OK {
					t.Errorf("%x bytes at %x", n, at)
				}
				if atMost(top, at, n) && n > 8192*size {
					if err := s.Map(at, n, 1); err == api.OK {
						t.Errorf("%x bytes at %x", n, at)
					}
				}
			}
			s.Word(at)
			s.Prot(at)
			if n, err := s.Word(at); s.SetWord(at, n) != err {
				t.Errorf("a word at %x is there, or not", at)
			}
		}
		if !s.Same(before) {
			t.Error("something was changed")
		}
	}
}
