package trie_test

import (
	"slices"
	"strings"
	"testing"

	"clevis/api"
	"clevis/trie"
)

// P9.3 (what follows)

// again asks that all of what was made is what it was made of, by rising names, that each name is found, and no other one.
func again(t *testing.T, b []byte, l []api.Export) {
	t.Helper()
	want := slices.Clone(l)
	slices.SortFunc(want, func(x, y api.Export) int { return strings.Compare(x.Name, y.Name) })
	got, err := trie.All(b)
	if !slices.Equal(got, want) || err != api.OK {
		t.Fatalf("All of what was made: %s (%v), want %s", briefly(got), err, briefly(want))
	}
	is := map[string]int{}
	for _, x := range want {
		is[x.Name] = 1
		if y, found, err := trie.Find(b, x.Name); y != x || !found || err != api.OK {
			t.Fatalf("Find of %q in what was made: %+v, %v (%v), want %+v", x.Name, y, found, err, x)
		}
	}
	for _, x := range want {
		for _, name := range []string{"", x.Name[1:], x.Name[:len(x.Name)-1], x.Name + "!", x.Name[:len(x.Name)-1] + "!", "!" + x.Name} {
			if y, found, err := trie.Find(b, name); found != (is[name] == 1) || err != api.OK && len(name) <= 255 {
				t.Fatalf("Find of %q, which is none: %+v, %v (%v)", name, y, found, err)
			}
		}
	}
}

// TestAsManyNodesAsCanBe: of 4096 names 8192 nodes are made, which are all met again.
func TestAsManyNodesAsCanBe(t *testing.T) {
	l := kinds(numbered(4096, 2, 12)...)
	if nodes, _ := wantPlan(l); len(nodes) != 8192 {
		t.Fatal(len(nodes))
	}
	b, err := checkMake(t, l...)
	if err != api.OK {
		t.Fatal(err)
	}
	again(t, b, l)
}

// TestDeepOnes: each name is the beginning of the next one.
func TestDeepOnes(t *testing.T) {
	var names []string
	for size := 1; size <= 255; size++ {
		names = append(names, strings.Repeat("n", size))
	}
	l := kinds(names...)
	b, err := checkMake(t, l...)
	if err != api.OK {
		t.Fatal(err)
	}
	again(t, b, l)
	// The longest one's name, and those beside each of its bytes.
	names = names[254:]
	for at := range 255 {
		names = append(names, strings.Repeat("n", at)+"m"+strings.Repeat("n", 254-at))
	}
	l = kinds(names...)
	b, err = checkMake(t, l...)
	if err != api.OK {
		t.Fatal(err)
	}
	again(t, b, l)
}

// TestWideOnes: a node has as many children as there are bytes but 0.
func TestWideOnes(t *testing.T) {
	var names []string
	for first := 255; first > 0; first-- {
		for _, rest := range []string{"", "x", "\x01\xff"} {
			names = append(names, string([]byte{byte(first)})+rest)
		}
	}
	l := kinds(names...)
	b, err := checkMake(t, l...)
	if err != api.OK || b[1] != 255 {
		t.Fatal(err)
	}
	again(t, b, l)
}

// TestFindAnswersAsAll: wherever All answers, of bytes that nobody made, too, Find answers the same of each name, and of no other one.
func TestFindAnswersAsAll(t *testing.T) {
	names := []string{"", "a", "b", "aa", "ab", "ba", "bb", "aaa", "aab", "aba", "abb", "x"}
	answered := 0
	for first := range 4 {
		for second := range 4 {
			for third := range 4 {
				for said := range 16 {
					leaves := func(i int) []byte { return [][]byte{nil, {0, byte(i)}}[said>>i&1] }
					b := drawn(
						sketch{leaves(0), []kid{{edge: "a", node: first}, {edge: "b", node: second}}},
						sketch{leaves(1), []kid{{edge: "b", node: third}}},
						sketch{leaves(2), []kid{{edge: "aa", node: 3}}},
						leaf(leaves(3)...),
					)
					l, err := trie.All(b)
					if err != api.OK {
						continue
					}
					answered++
					for _, name := range names {
						i := slices.IndexFunc(l, func(x api.Export) bool { return x.Name == name })
						x, is, err := trie.Find(b, name)
						if is != (i >= 0) || is && x != l[i] || err != api.OK {
							t.Errorf("%s: Find of %q: %v, %v (%v), All: %v", brief(b), name, x, is, err, l)
						}
					}
				}
			}
		}
	}
	if answered < 300 {
		t.Errorf("%d answered alone", answered)
	}
}

func FuzzMake(f *testing.F) {
	f.Add("a\nb\nab\nabc", uint64(5), "other", 3)
	f.Add("_main\n_m\n_malloc\nb\n\nb", uint64(1<<63), "", 4)
	f.Add(strings.Join(numbered(300, 2, 9), "\n"), uint64(300), "\x00", 1)
	f.Fuzz(func(t *testing.T, names string, n uint64, other string, kind int) {
		var l []api.Export
		for i, name := range strings.Split(names, "\n") {
			x := api.Export{Name: name, Kind: api.ExportKind(1 + (kind+i)%4), Weak: n>>(i%64)&1 != 0}
			switch x.Kind {
			case api.ExpRegular, api.ExpAbsolute:
				x.Value = n
			case api.ExpReexport:
				x.Ordinal, x.Other = n, other
			default:
				x.Value, x.Resolver = n, n>>uint(i%64)
			}
			l = append(l, x)
		}
		b, err := checkMake(t, l...)
		if err == api.OK && len(l) > 0 {
			again(t, b, l)
		}
		check(t, b)
	})
}
