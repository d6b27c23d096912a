package trie

import (
	"slices"
	"strings"

	"clevis/api"
	"clevis/leb"
)

// May an export be?
func May(x api.Export) bool {
	if x.Name == "" || !textMay(x.Name) || !textMay(x.Other) {
		return false
	}
	switch x.Kind {
	case api.ExpRegular, api.ExpAbsolute:
		return x.Resolver == 0 && x.Ordinal == 0 && x.Other == ""
	case api.ExpReexport:
		return x.Value == 0 && x.Resolver == 0
	case api.ExpStub:
		return x.Ordinal == 0 && x.Other == ""
	}
	return false
}

// Make is the trie of exports.
func Make(l ...api.Export) ([]byte, api.Errno) {
	if slices.ContainsFunc(l, func(x api.Export) bool { return !May(x) }) {
		return nil, api.ErrArg
	}
	if len(l) > api.MaxNames {
		return nil, api.ErrMany
	}
	l = slices.SortedFunc(slices.Values(l), byName)
	if twice(l) {
		return nil, api.ErrTwice
	}
	b := settle(plan(l))
	if len(b) > api.MaxFile {
		return nil, api.ErrMany
	}
	return b, api.OK
}

// draft is a node in the making: what stands ahead of its children, and these.
type draft struct {
	front    []byte
	branches []branch
}

// branch is a child in the making: its edge, and which node it is.
type branch struct {
	edge string
	node int
}

// plan are the nodes of exports, which rise, in the order in which all names are gone over; of none none.
func plan(l []api.Export) []draft {
	if len(l) == 0 {
		return nil
	}
	var nodes []draft
	// The node's name is what all of these begin with, so many bytes; the first one's may be no longer.
	var add func(l []api.Export, size int) int
	add = func(l []api.Export, size int) int {
		// Its seat is ahead of its children's.
		seat := len(nodes)
		nodes = append(nodes, draft{})
		d := draft{front: leb.Put(0)}
		if len(l[0].Name) == size {
			said := say(l[0])
			d.front = append(leb.Put(uint64(len(said))), said...)
			l = l[1:]
		}
		for len(l) > 0 {
			n := alike(l, size)
			first, last := l[0].Name, l[n-1].Name
			end := common(first, last)
			d.branches = append(d.branches, branch{first[size:end], add(l[:n], end)})
			l = l[n:]
		}
		nodes[seat] = d
		return seat
	}
	add(l, 0)
	return nodes
}

// settle is nodes' bytes, with their own places in them. From round to round places grow alone, as numbers of greater ones have no fewer bytes: it comes to an end.
func settle(nodes []draft) []byte {
	places := make([]uint64, len(nodes))
rounds:
	for {
		b, next := lay(nodes, places)
		for i, place := range next {
			if place != places[i] {
				places = next
				continue rounds
			}
		}
		return b
	}
}

// lay lays nodes one behind the other, their children's places being those; and tells where each one stands then.
func lay(nodes []draft, places []uint64) ([]byte, []uint64) {
	var b []byte
	next := make([]uint64, 0, len(nodes))
	for _, d := range nodes {
		next = append(next, uint64(len(b)))
		b = append(b, d.front...)
		b = append(b, byte(len(d.branches)))
		for _, x := range d.branches {
			b = append(b, x.edge...)
			b = append(b, 0)
			b = append(b, leb.Put(places[x.node])...)
		}
	}
	return b, next
}

// say is what is said of an export that may be.
func say(x api.Export) []byte {
	var weak uint64
	if x.Weak {
		weak = flagWeak
	}
	switch x.Kind {
	case api.ExpAbsolute:
		return numbers(flagAbsolute|weak, x.Value)
	case api.ExpReexport:
		b := append(numbers(flagReexport|weak, x.Ordinal), x.Other...)
		return append(b, 0)
	case api.ExpStub:
		return numbers(flagStub|weak, x.Value, x.Resolver)
	}
	return numbers(flagRegular|weak, x.Value)
}

// numbers are numbers' bytes, one behind the other.
func numbers(l ...uint64) []byte {
	var b []byte
	for _, n := range l {
		b = append(b, leb.Put(n)...)
	}
	return b
}

// alike is how many exports, from the first on, have the same byte there. All of them have one.
func alike(l []api.Export, at int) int {
	i := slices.IndexFunc(l, func(x api.Export) bool { return x.Name[at] != l[0].Name[at] })
	if i < 0 {
		return len(l)
	}
	return i
}

// common is how many bytes two names begin with both.
func common(a, b string) int {
	n := 0
	for n < min(len(a), len(b)) && a[n] == b[n] {
		n++
	}
	return n
}

// twice: are two exports, which rise, of one name?
func twice(l []api.Export) bool {
	for i := 1; i < len(l); i++ {
		if l[i].Name == l[i-1].Name {
			return true
		}
	}
	return false
}

// textMay: may a text be a name, or another one's?
func textMay(s string) bool {
	return len(s) <= api.MaxName && strings.IndexByte(s, 0) < 0
}
