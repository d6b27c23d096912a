package export_test

import (
	"slices"
	"strconv"
	"strings"
	"testing"

	"clevis/api"
	"clevis/export"
	"clevis/image"
)

// P11.4 (what follows)

// follow asks, wherever All answers, that Find answers the same of each name, and that there is no other one; and that where these are, but for absolute ones and those of others, is within the image.
func follow(t *testing.T, slice []byte, m api.Image) {
	t.Helper()
	l, err := export.All(slice, m)
	if err != api.OK {
		return
	}
	is := map[string]bool{}
	for i, x := range l {
		if i > 0 && l[i-1].Name >= x.Name {
			t.Fatalf("%q stands ahead of %q", l[i-1].Name, x.Name)
		}
		is[x.Name] = true
	}
	low, long := image.Low(m), image.High(m)-image.Low(m)
	for i := 0; i < len(l); i += 1 + len(l)/16 {
		x := l[i]
		if y, found, err := export.Find(slice, m, x.Name); y != x || !found || err != api.OK {
			t.Fatalf("Find of %q: %+v, %v (%v), All: %+v", x.Name, y, found, err, x)
		}
		for _, name := range []string{"", "a", "\x00", x.Name + "a", x.Name + "\x00", x.Name[:max(1, len(x.Name))-1]} {
			if y, found, err := export.Find(slice, m, name); len(name) <= 255 && (found != is[name] || err != api.OK || !found && y != api.Export{}) {
				t.Fatalf("Find of %q: %+v, %v (%v)", name, y, found, err)
			}
		}
		for _, slide := range []uint64{0, 0x4000, 1<<64 - 0x4000} {
			at := export.At(m, x, slide)
			switch x.Kind {
			case api.ExpAbsolute:
				if at != x.Value {
					t.Fatalf("%+v is at %x", x, at)
				}
			case api.ExpReexport:
				if at != 0 {
					t.Fatalf("%+v is at %x", x, at)
				}
			default:
				if at-slide-low >= long || x.Kind == api.ExpRegular && x.Resolver != 0 || x.Resolver >= long {
					t.Fatalf("%+v is at %x, not within the image", x, at)
				}
			}
		}
	}
}

// TestFewOfAllKinds: all rows of at most three of some exports, in a trie.
func TestFewOfAllKinds(t *testing.T) {
	some := []api.Export{
		regular("a", 0), weakly(regular("ab", fineLong-1)), regular("abc", fineLong), absolute("b", 1<<63),
		reexport("ac", 2, "other"), reexport("bb", 3, ""), stub("c", 5, fineLong-1), stub("ca", 5, fineLong), weakly(stub("cb", fineLong, 0)),
	}
	var l []api.Export
	var longer func(from int)
	longer = func(from int) {
		slice, m := ofTrie(t, l...)
		check(t, slice, m, "ab", "b", "ca", "c")
		if len(l) == 3 {
			return
		}
		for i := from; i < len(some); i++ {
			l = append(l, some[i])
			longer(i + 1)
			l = l[:len(l)-1]
		}
	}
	longer(0)
}

// TestFewOfATable: all rows of at most three of some symbols, in all orders.
func TestFewOfATable(t *testing.T) {
	some := []api.Symbol{
		{Name: "b", Section: 1, Value: fineLow}, {Name: "ab", Section: fineSections, Value: fineLow + fineLong - 1, Weak: true}, {Name: "c", Section: 2, Value: fineLow + fineLong},
		{Name: "a", Value: 1 << 63, Weak: true}, {Name: "ca", Section: 3, Value: fineLow - 1}, {Name: "\xff"}, {Name: "d", Section: fineSections + 1, Value: fineLow},
	}
	var l []api.Symbol
	var longer func()
	longer = func() {
		slice, m := ofTable(t, l...)
		check(t, slice, m, "ab", "b", "ca", "c")
		if len(l) == 3 {
			return
		}
		for _, x := range some {
			if !slices.Contains(l, x) {
				l = append(l, x)
				longer()
				l = l[:len(l)-1]
			}
		}
	}
	longer()
}

// TestAsManyAsCanBe: 4096 names, of a trie and of a table.
func TestAsManyAsCanBe(t *testing.T) {
	var exports, ofSymbols []api.Export
	var symbols []api.Symbol
	for i := range uint64(4096) {
		name := "_" + strconv.FormatUint(i*2654435761%(1<<32), 36)
		exports = append(exports, regular(name, i))
		symbols = append(symbols, api.Symbol{Name: name, Section: 1 + int(i%fineSections), Value: fineLow + i, Weak: i%3 == 0})
		x := regular(name, i)
		x.Weak = i%3 == 0
		ofSymbols = append(ofSymbols, x)
	}
	byName := func(a, b api.Export) int { return strings.Compare(a.Name, b.Name) }
	slices.SortFunc(ofSymbols, byName)
	slice, m := ofTrie(t, exports...)
	may(t, slice, m)
	slices.SortFunc(exports, byName)
	if l, err := check(t, slice, m); !slices.Equal(l, exports) || err != api.OK {
		t.Errorf("%s (%v)", briefly(l), err)
	}
	slice, m = ofTable(t, symbols...)
	may(t, slice, m)
	if l, err := check(t, slice, m); !slices.Equal(l, ofSymbols) || err != api.OK {
		t.Errorf("%s (%v)", briefly(l), err)
	}
}
