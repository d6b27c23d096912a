package space

import (
	"iter"
	"maps"
	"slices"

	"clevis/api"
)

// Dump is its pieces.
func (s *Space) Dump() []api.Piece {
	return slices.Collect(s.pieces())
}

// All goes over its pieces. All are copied when one begins to go over them, so that the space may be changed meanwhile.
func (s *Space) All() iter.Seq[api.Piece] {
	return func(yield func(api.Piece) bool) {
		for _, p := range s.Dump() {
			if !yield(p) {
				return
			}
		}
	}
}

// pieces goes over the pieces, each copied when it is come to.
func (s *Space) pieces() iter.Seq[api.Piece] {
	return func(yield func(api.Piece) bool) {
		for l := s.rising(); len(l) > 0; {
			n := s.run(l)
			if !yield(s.piece(l[0], n)) {
				return
			}
			l = l[n:]
		}
	}
}

// rising are the pages' numbers, in order.
func (s *Space) rising() []uint64 {
	if s == nil {
		return nil
	}
	return slices.Sorted(maps.Keys(s.pages))
}

// run is how many of these pages, from the first one on, follow one another and have one protection.
func (s *Space) run(l []uint64) int {
	n := 1
	for n < len(l) && l[n] == l[n-1]+1 && s.prots[l[n]] == s.prots[l[0]] {
		n++
	}
	return n
}

// piece is so many pages, from one on.
func (s *Space) piece(first uint64, count int) api.Piece {
	at := first * api.PageSize
	return api.Piece{At: at, Prot: s.prots[first], Bytes: s.told(at, uint64(count)*api.PageSize)}
}
