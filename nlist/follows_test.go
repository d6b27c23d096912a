package nlist_test

import (
	"bytes"
	"slices"
	"strings"
	"testing"

	"clevis/api"
	"clevis/nlist"
)

// P10.3 (what follows)

// again asks that all of what was made is told as it was made, in the same order, that each name is found, and no other one.
func again(t *testing.T, table, names []byte, l []api.Symbol) {
	t.Helper()
	sections := 0
	is := map[string]bool{}
	for _, x := range l {
		sections = max(sections, x.Section)
		is[x.Name] = true
	}
	for _, many := range []int{sections, sections + 1, 255} {
		got, err := nlist.All(table, names, many)
		if !slices.Equal(got, l) || err != api.OK {
			t.Fatalf("All of what was made: %s (%v), want %s", briefly(got), err, briefly(l))
		}
	}
	if _, err := nlist.All(table, names, sections-1); sections > 0 && err != api.ErrSymtab {
		t.Fatalf("All of one section fewer: %v", err)
	}
	for i := 0; i < len(l); i += 1 + len(l)/10 {
		x := l[i]
		if y, found, err := nlist.Find(table, names, sections, x.Name); y != x || !found || err != api.OK {
			t.Fatalf("Find of %q in what was made: %+v, %v (%v), want %+v", x.Name, y, found, err, x)
		}
		for _, name := range []string{"", x.Name[1:], x.Name[:len(x.Name)-1], x.Name + "!", "!" + x.Name, x.Name + "\x00"} {
			if y, found, err := nlist.Find(table, names, sections, name); found != is[name] || err != api.OK {
				t.Fatalf("Find of %q: %+v, %v (%v)", name, y, found, err)
			}
		}
	}
}

// stand asks that each name that is told stands in the strings, a 0 behind it, where an entry says.
func stand(t *testing.T, table, names []byte, sections int) {
	t.Helper()
	l, err := nlist.All(table, names, sections)
	if err != api.OK && l != nil {
		t.Fatalf("a list beside %v", err)
	}
	for _, x := range l {
		whole := []byte(x.Name + "\x00")
		if len(x.Name) < 1 || len(x.Name) > 255 || bytes.IndexByte(whole, 0) < len(x.Name) {
			t.Fatalf("%q is told", x.Name)
		}
		if !slices.ContainsFunc(rowsOf(table), func(r row) bool {
			return int64(r.place) < int64(len(names)) && bytes.HasPrefix(names[r.place:], whole)
		}) {
			t.Fatalf("%q does not stand where an entry says", x.Name)
		}
		if x.Section < 0 || x.Section > max(sections, 0) {
			t.Fatalf("%q is told of the section %d of %d", x.Name, x.Section, sections)
		}
	}
}

// TestAllRowsOfFew: all rows of at most four of some symbols, each of another name, in all orders.
func TestAllRowsOfFew(t *testing.T) {
	some := []api.Symbol{
		{Name: "a", Section: 1, Value: 1},
		{Name: "ab", Value: 1 << 63, Weak: true},
		{Name: "b", Section: 255, Weak: true},
		{Name: strings.Repeat("\xff", 255), Section: 2, Value: 5},
		{Name: "\x01"},
	}
	var l []api.Symbol
	var longer func()
	longer = func() {
		table, names, err := checkMake(t, l...)
		if err != api.OK {
			t.Fatal(err)
		}
		again(t, table, names, l)
		stand(t, table, names, 255)
		if len(l) == 4 {
			return
		}
		for _, x := range some {
			if !slices.Contains(l, x) {
				l = append(l, x)
				longer()
				l = l[:len(l)-1]
			}
		}
	}
	longer()
}

// TestAllThatMayBe: whatever may be is told as it was made.
func TestAllThatMayBe(t *testing.T) {
	for section := range 256 {
		for _, value := range []uint64{0, 1, 0x8000, 1 << 32, 1<<64 - 1} {
			for _, weak := range []bool{false, true} {
				for _, size := range []int{1, 2, 255} {
					l := []api.Symbol{{Name: strings.Repeat("n", size), Section: section, Value: value, Weak: weak}}
					table, names, err := nlist.Make(l...)
					if err != api.OK {
						t.Fatal(err)
					}
					again(t, table, names, l)
				}
			}
		}
	}
}

// TestAsManyAsCanBe: 4096 names are told as they were made.
func TestAsManyAsCanBe(t *testing.T) {
	for _, size := range []int{3, 20, 254} {
		l := named(4096, size)
		table, names, err := nlist.Make(l...)
		if err != api.OK {
			t.Fatal(err)
		}
		again(t, table, names, l)
		stand(t, table, names, 255)
		slices.Reverse(l)
		table, names, _ = nlist.Make(l...)
		again(t, table, names, l)
	}
}

// TestFindAnswersAsAll: wherever All answers, of bytes that nobody made, too, Find answers the same of each name, and of no other one.
func TestFindAnswersAsAll(t *testing.T) {
	names := []byte("\x00ab\x00b\x00a\x00")
	asked := []string{"", "a", "b", "ab", "ba", "aa", "\x00"}
	answered := 0
	for first := range uint32(9) {
		for second := range uint32(9) {
			for _, kinds := range [][2]byte{{0x0F, 0x0F}, {0x0F, 0x03}, {0x03, 0x0E}, {0x13, 0x03}} {
				table := drawn(row{first, kinds[0], 1, 0x80, 5}, row{second, kinds[1], 1, 0, 6})
				l, err := nlist.All(table, names, 1)
				for _, name := range asked {
					i := slices.IndexFunc(l, func(x api.Symbol) bool { return x.Name == name })
					x, is, findErr := nlist.Find(table, names, 1, name)
					if is != (i >= 0) || is && x != l[i] || !is && x != (api.Symbol{}) || findErr != err {
						t.Errorf("%s: Find of %q: %v, %v (%v), All: %v (%v)", brief(table), name, x, is, findErr, l, err)
					}
				}
				if err == api.OK {
					answered++
				}
				stand(t, table, names, 1)
			}
		}
	}
	if answered < 80 {
		t.Errorf("%d answered alone", answered)
	}
}

func FuzzMake(f *testing.F) {
	f.Add("a\nb\nab\nabc", uint64(5), 3)
	f.Add("_main\n_m\n_malloc\nb\n\nb", uint64(1<<63), -1)
	f.Add(strings.Repeat("x", 255)+"\ny\x00", uint64(300), 254)
	f.Fuzz(func(t *testing.T, text string, n uint64, section int) {
		var l []api.Symbol
		for i, name := range strings.Split(text, "\n") {
			l = append(l, api.Symbol{Name: name, Section: section + i, Value: n << (i % 64), Weak: n>>(i%64)&1 != 0})
		}
		table, names, err := checkMake(t, l...)
		if err == api.OK {
			again(t, table, names, l)
		}
		check(t, table, names, section)
		stand(t, table, names, section)
	})
}
