package trie

import (
	"slices"

	"clevis/api"
	"clevis/cursor"
	"clevis/leb"
)

// The flags of what is said of a name: one of the kinds', and beside it whether it is weak.
const (
	flagRegular  = 0
	flagAbsolute = 2
	flagWeak     = 4
	flagReexport = 8
	flagStub     = 16
)

// node is what stands at a place: what is said of its name, if it is a name's end, and its children, in order.
type node struct {
	isName   bool
	export   api.Export
	children []child
}

type child struct {
	edge  string
	place uint64
}

// few is how many bytes are looked at first: hardly a node has more.
const few = 128

// nodeAt is the node of a name that stands at a place; does one? A cursor copies what it is over: it is given few bytes, and more of them only where none stands in these.
func nodeAt(b []byte, place uint64, name string) (node, bool) {
	if place >= uint64(len(b)) {
		return node{}, false
	}
	rest := b[place:]
	for size := few; ; size *= 2 {
		look := rest[:min(size, len(rest))]
		c := cursor.New(look, false)
		n := take(c, name)
		if c.Err() == api.OK {
			return n, true
		}
		if len(look) == len(rest) {
			return node{}, false
		}
	}
}

// take takes the node of a name; where none stands at the cursor's place, the cursor has failed.
func take(c *cursor.Cursor, name string) node {
	var n node
	if size := leb.Uleb(c); size > 0 {
		n.isName, n.export = true, takeExport(c, name, size)
	}
	for range c.Number(1) {
		x := child{edge: c.Text(api.MaxName)}
		x.place = leb.Uleb(c)
		// A cursor that has failed tells no edge: no bytes, too.
		if x.edge == "" || meetsAny(x, n.children) {
			c.Fail()
			break
		}
		n.children = append(n.children, x)
	}
	return n
}

// takeExport takes what is said of a name, of just so many bytes.
func takeExport(c *cursor.Cursor, name string, size uint64) api.Export {
	begin := c.At()
	x := api.Export{Name: name}
	flags := leb.Uleb(c)
	x.Weak = flags&flagWeak != 0
	switch flags &^ flagWeak {
	case flagRegular:
		x.Kind, x.Value = api.ExpRegular, leb.Uleb(c)
	case flagAbsolute:
		x.Kind, x.Value = api.ExpAbsolute, leb.Uleb(c)
	case flagReexport:
		x.Kind, x.Ordinal = api.ExpReexport, leb.Uleb(c)
		x.Other = c.Text(api.MaxName)
	case flagStub:
		x.Kind, x.Value = api.ExpStub, leb.Uleb(c)
		x.Resolver = leb.Uleb(c)
	default:
		c.Fail()
	}
	if uint64(c.At()-begin) != size {
		c.Fail()
	}
	return x
}

// meetsAny: does a child's edge begin as one of some does?
func meetsAny(x child, l []child) bool {
	return slices.ContainsFunc(l, func(other child) bool { return other.edge[0] == x.edge[0] })
}
