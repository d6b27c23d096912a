package trie_test

import (
	"encoding/binary"
	"fmt"

	"clevis/api"
)

// How tests make bytes of tries, right ones and wrong ones.

// sketch is a node as it is to be drawn: what is said of its name (no bytes: nothing), and its children.
type sketch struct {
	said []byte
	kids []kid
}

// kid is a child: of an edge, and which of the sketches it is; or, where far is not 0, at that place.
type kid struct {
	edge string
	node int
	far  uint64
}

// leaf is a node without children.
func leaf(said ...byte) sketch { return sketch{said: said} }

// twig is a node of no name, with children.
func twig(kids ...kid) sketch { return sketch{kids: kids} }

// wide is a number in so many bytes, groups of nothing behind it.
func wide(n uint64, size int) []byte {
	var b []byte
	for range size - 1 {
		b = append(b, byte(n%128)+128)
		n /= 128
	}
	return append(b, byte(n))
}

// put lays a sketch's bytes; all places have as many bytes, so that where nodes stand hangs on none.
func (s sketch) put(b []byte, places []uint64) []byte {
	b = binary.AppendUvarint(b, uint64(len(s.said)))
	b = append(append(b, s.said...), byte(len(s.kids)))
	for _, k := range s.kids {
		place := k.far
		if place == 0 {
			place = places[k.node]
		}
		b = append(append(b, k.edge...), 0)
		b = append(b, wide(place, 10)...)
	}
	return b
}

// placesOf are where sketches stand, one behind the other.
func placesOf(l []sketch) []uint64 {
	var b []byte
	places := make([]uint64, len(l))
	for i, s := range l {
		places[i] = uint64(len(b))
		b = s.put(b, places)
	}
	return places
}

// drawn are the bytes of sketches, the root's first.
func drawn(l ...sketch) []byte {
	var b []byte
	places := placesOf(l)
	for _, s := range l {
		b = s.put(b, places)
	}
	return b
}

// bush are nodes, from a place among sketches on, each of which has so many children, all at the next one; the last is a leaf. So many are met of it, and so many times the leaf.
func bush(from, fan, depth int, said ...byte) (l []sketch, nodes, leaves int) {
	nodes, leaves = 1, 1
	for i := range depth {
		var kids []kid
		for k := range fan {
			kids = append(kids, kid{edge: string(rune('A' + k)), node: from + i + 1})
		}
		l = append(l, twig(kids...))
		leaves *= fan
		nodes += leaves
	}
	return append(l, leaf(said...)), nodes, leaves
}

// brief tells bytes, if there are not too many.
func brief(b []byte) string {
	if len(b) > 400 {
		return fmt.Sprintf("%d bytes (% x ..)", len(b), b[:40])
	}
	return fmt.Sprintf("[% x]", b)
}

// briefly tells exports, if there are not too many.
func briefly(l []api.Export) string {
	if len(l) > 20 {
		return fmt.Sprintf("%d exports", len(l))
	}
	return fmt.Sprintf("%+v", l)
}
