package trie_test

import (
	"bytes"
	"encoding/binary"
	"slices"
	"strings"
	"testing"

	"clevis/api"
	"clevis/trie"
)

// What the chapter says of tries, once more, so that the calls can be held against it whatever bytes there are.

// limits are what the document names.
const (
	mostName  = 255
	mostNames = 4096
	mostNodes = 8192
	mostFile  = 1 << 20
)

// reader goes over bytes; it is lost once something is not there.
type reader struct {
	b    []byte
	lost bool
}

func (r *reader) number() uint64 {
	n, size := binary.Uvarint(r.b)
	if size <= 0 {
		r.lost, r.b = true, nil
		return 0
	}
	r.b = r.b[size:]
	return n
}

func (r *reader) bytes(n uint64) []byte {
	if n > uint64(len(r.b)) {
		r.lost, r.b = true, nil
		return nil
	}
	cut := r.b[:n]
	r.b = r.b[n:]
	return cut
}

func (r *reader) text(least int) string {
	text, rest, is := bytes.Cut(r.b, []byte{0})
	if !is || len(text) < least || len(text) > mostName {
		r.lost, r.b = true, nil
		return ""
	}
	r.b = rest
	return string(text)
}

// knot is a node of a model; said is nil where it is no name's end.
type knot struct {
	said  *api.Export
	edges []string
	where []uint64
}

// kindsByFlags are the kinds, weak ones and others.
var kindsByFlags = map[uint64]api.Export{
	0:  {Kind: 1},
	2:  {Kind: 2},
	8:  {Kind: 3},
	16: {Kind: 4},
	4:  {Kind: 1, Weak: true},
	6:  {Kind: 2, Weak: true},
	12: {Kind: 3, Weak: true},
	20: {Kind: 4, Weak: true},
}

func wantSaid(b []byte) (*api.Export, bool) {
	r := &reader{b: b}
	x, is := kindsByFlags[r.number()]
	switch x.Kind {
	case 3:
		x.Ordinal = r.number()
		x.Other = r.text(0)
	case 4:
		x.Value = r.number()
		x.Resolver = r.number()
	default:
		x.Value = r.number()
	}
	return &x, is && !r.lost && len(r.b) == 0
}

func wantNode(b []byte, at uint64) (knot, bool) {
	if at >= uint64(len(b)) {
		return knot{}, false
	}
	r := &reader{b: b[at:]}
	var k knot
	if said := r.bytes(r.number()); len(said) > 0 {
		x, is := wantSaid(said)
		if !is {
			return knot{}, false
		}
		k.said = x
	}
	for many := r.bytes(1); len(many) > 0 && len(k.edges) < int(many[0]) && !r.lost; {
		k.edges = append(k.edges, r.text(1))
		k.where = append(k.where, r.number())
	}
	for i, s := range k.edges {
		for _, other := range k.edges[:i] {
			r.lost = r.lost || s == "" || other == "" || s[0] == other[0]
		}
	}
	return k, !r.lost
}

// stop is a node that is yet to be met: its name, and the places on the way to it, its own one the last.
type stop struct {
	name string
	way  []uint64
}

// wantAll goes over the nodes by a heap of those that are yet to be met, the next one on top.
func wantAll(b []byte) ([]api.Export, api.Errno) {
	if len(b) == 0 {
		return nil, api.OK
	}
	var l []api.Export
	nodes := 0
	for heap := []stop{{"", []uint64{0}}}; len(heap) > 0; {
		x := heap[len(heap)-1]
		heap = heap[:len(heap)-1]
		at := x.way[len(x.way)-1]
		nodes++
		if len(x.name) > mostName {
			return nil, api.ErrName
		}
		if slices.Index(x.way, at) < len(x.way)-1 {
			return nil, api.ErrTrie
		}
		if nodes > mostNodes {
			return nil, api.ErrMany
		}
		k, is := wantNode(b, at)
		if !is {
			return nil, api.ErrTrie
		}
		if k.said != nil {
			k.said.Name = x.name
			l = append(l, *k.said)
		}
		if len(l) > mostNames {
			return nil, api.ErrMany
		}
		for i := len(k.edges) - 1; i >= 0; i-- {
			heap = append(heap, stop{x.name + k.edges[i], append(slices.Clone(x.way), k.where[i])})
		}
	}
	slices.SortFunc(l, func(x, y api.Export) int { return strings.Compare(x.Name, y.Name) })
	return l, api.OK
}

func wantFind(b []byte, name string) (api.Export, bool, api.Errno) {
	if len(name) > mostName {
		return api.Export{}, false, api.ErrName
	}
	if len(b) == 0 {
		return api.Export{}, false, api.OK
	}
	met := map[uint64]int{}
	at, rest := uint64(0), name
going:
	for {
		k, is := wantNode(b, at)
		if met[at]++; met[at] > 1 || !is {
			return api.Export{}, false, api.ErrTrie
		}
		if rest == "" && k.said != nil {
			k.said.Name = name
			return *k.said, true, api.OK
		}
		for i, edge := range k.edges {
			if after, is := strings.CutPrefix(rest, edge); is {
				at, rest = k.where[i], after
				continue going
			}
		}
		return api.Export{}, false, api.OK
	}
}

func wantMay(x api.Export) bool {
	plain := func(s string) bool { return len(s) <= mostName && !strings.Contains(s, "\x00") }
	bare := x
	bare.Name, bare.Weak = "", false
	switch x.Kind {
	case 1, 2:
		bare.Value = 0
	case 3:
		bare.Ordinal, bare.Other = 0, ""
	case 4:
		bare.Value, bare.Resolver = 0, 0
	default:
		return false
	}
	return bare == api.Export{Kind: x.Kind} && len(x.Name) > 0 && plain(x.Name) && plain(x.Other)
}

func wantSay(x api.Export) []byte {
	flags := map[api.ExportKind]byte{1: 0, 2: 2, 3: 8, 4: 16}[x.Kind]
	if x.Weak {
		flags += 4
	}
	b := []byte{flags}
	switch x.Kind {
	case 3:
		b = binary.AppendUvarint(b, x.Ordinal)
		return append(append(b, x.Other...), 0)
	case 4:
		b = binary.AppendUvarint(b, x.Value)
		return binary.AppendUvarint(b, x.Resolver)
	}
	return binary.AppendUvarint(b, x.Value)
}

func prefix(a, b string) string {
	n := 0
	for n < len(a) && n < len(b) && a[n] == b[n] {
		n++
	}
	return a[:n]
}

// wantPlan are the names of nodes, rising (in depth, the node itself first, its children by rising edges), and of each the places of its children among them. All exports are to have other names.
func wantPlan(l []api.Export) ([]string, [][]int) {
	var names []string
	for _, x := range l {
		names = append(names, x.Name)
	}
	slices.Sort(names)
	nodes := []string{""}
	for i, s := range names {
		nodes = append(nodes, s)
		if i > 0 {
			nodes = append(nodes, prefix(names[i-1], s))
		}
	}
	slices.Sort(nodes)
	nodes = slices.Compact(nodes)
	children := make([][]int, len(nodes))
	var open []int
	for i, s := range nodes {
		for len(open) > 0 && !strings.HasPrefix(s, nodes[open[len(open)-1]]) {
			open = open[:len(open)-1]
		}
		if len(open) > 0 {
			parent := open[len(open)-1]
			children[parent] = append(children[parent], i)
		}
		open = append(open, i)
	}
	return nodes, children
}

func wantMake(l []api.Export) ([]byte, api.Errno) {
	if slices.ContainsFunc(l, func(x api.Export) bool { return !wantMay(x) }) {
		return nil, api.ErrArg
	}
	if len(l) > mostNames {
		return nil, api.ErrMany
	}
	said := map[string][]byte{}
	for _, x := range l {
		if said[x.Name] != nil {
			return nil, api.ErrTwice
		}
		said[x.Name] = wantSay(x)
	}
	if len(l) == 0 {
		return nil, api.OK
	}
	nodes, children := wantPlan(l)
	ahead := make([]uint64, len(nodes))
	for {
		var b []byte
		places := make([]uint64, len(nodes))
		for i, name := range nodes {
			places[i] = uint64(len(b))
			b = binary.AppendUvarint(b, uint64(len(said[name])))
			b = append(b, said[name]...)
			b = append(b, byte(len(children[i])))
			for _, k := range children[i] {
				b = append(b, nodes[k][len(name):]...)
				b = append(b, 0)
				b = binary.AppendUvarint(b, ahead[k])
			}
		}
		if slices.Equal(places, ahead) {
			if len(b) > mostFile {
				return nil, api.ErrMany
			}
			return b, api.OK
		}
		ahead = places
	}
}

// checkAll holds All of any bytes, which are to stay as they are, against what is wanted.
func checkAll(t *testing.T, b []byte) ([]api.Export, api.Errno) {
	t.Helper()
	before := bytes.Clone(b)
	want, wantErr := wantAll(b)
	got, err := trie.All(b)
	if !slices.Equal(got, want) || err != wantErr {
		t.Fatalf("All of %s: %s (%v), want %s (%v)", brief(b), briefly(got), err, briefly(want), wantErr)
	}
	if err != api.OK && got != nil {
		t.Fatalf("All of %s: a list beside %v", brief(b), err)
	}
	if !bytes.Equal(b, before) {
		t.Fatalf("All of %s changed what was handed in", brief(before))
	}
	return got, err
}

// checkFind holds Find of any bytes, which are to stay as they are, and any name against what is wanted.
func checkFind(t *testing.T, b []byte, name string) (api.Export, bool, api.Errno) {
	t.Helper()
	before := bytes.Clone(b)
	want, wantIs, wantErr := wantFind(b, name)
	got, is, err := trie.Find(b, name)
	if got != want || is != wantIs || err != wantErr {
		t.Fatalf("Find of %q in %s: %v, %v (%v), want %v, %v (%v)", name, brief(b), got, is, err, want, wantIs, wantErr)
	}
	if !bytes.Equal(b, before) {
		t.Fatalf("Find of %q in %s changed what was handed in", name, brief(before))
	}
	return got, is, err
}

// check holds All, and Find of each name that stands there or nearly so, and of others, against what is wanted.
func check(t *testing.T, b []byte, others ...string) {
	t.Helper()
	l, _ := checkAll(t, b)
	for _, x := range l {
		others = append(others, x.Name, x.Name+"a", x.Name[:max(0, len(x.Name)-1)])
	}
	slices.Sort(others)
	for _, name := range slices.Compact(append(others, "", "a", "b", "zz")) {
		checkFind(t, b, name)
	}
}

// checkMake holds Make of any exports, which are to stay as they are, against what is wanted.
func checkMake(t *testing.T, l ...api.Export) ([]byte, api.Errno) {
	t.Helper()
	before := slices.Clone(l)
	want, wantErr := wantMake(l)
	got, err := trie.Make(l...)
	if !bytes.Equal(got, want) || err != wantErr {
		t.Fatalf("Make of %s: %s (%v), want %s (%v)", briefly(l), brief(got), err, brief(want), wantErr)
	}
	if err != api.OK && got != nil {
		t.Fatalf("Make of %s: bytes beside %v", briefly(l), err)
	}
	if !slices.Equal(l, before) {
		t.Fatalf("Make of %s changed what was handed in", briefly(before))
	}
	return got, err
}
