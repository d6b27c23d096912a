package nlist_test

import (
	"bytes"
	"fmt"
	"math"
	"slices"
	"strings"
	"testing"

	"clevis/api"
	"clevis/nlist"
)

// P10.1 (All, Find)

// told asks that All answers just these, in that order, and that Find answers each one.
func told(t *testing.T, what string, table, names []byte, sections int, want ...api.Symbol) {
	t.Helper()
	l, err := nlist.All(table, names, sections)
	if !slices.Equal(l, want) || err != api.OK {
		t.Errorf("%s: All is %s (%v), want %s", what, briefly(l), err, briefly(want))
	}
	for _, x := range want[:min(len(want), 20)] {
		if got, is, err := nlist.Find(table, names, sections, x.Name); got != x || !is || err != api.OK {
			t.Errorf("%s: Find of %q is %+v, %v (%v), want %+v", what, x.Name, got, is, err, x)
		}
	}
	check(t, table, names, sections)
}

// refused asks that All answers that error, and Find, too, whatever the name is; and nothing beside it.
func refused(t *testing.T, what string, table, names []byte, sections int, want api.Errno) {
	t.Helper()
	if l, err := nlist.All(table, names, sections); l != nil || err != want {
		t.Errorf("%s: All is %s (%v), want %v", what, briefly(l), err, want)
	}
	for _, name := range []string{"", "a", "b", "x", strings.Repeat("a", 300)} {
		if x, is, err := nlist.Find(table, names, sections, name); x != (api.Symbol{}) || is || err != want {
			t.Errorf("%s: Find of %q is %+v, %v (%v), want %v", what, name, x, is, err, want)
		}
	}
	check(t, table, names, sections)
}

// absent asks that names are not told, and that there is no error.
func absent(t *testing.T, what string, table, names []byte, sections int, l ...string) {
	t.Helper()
	for _, name := range l {
		if x, is, err := nlist.Find(table, names, sections, name); x != (api.Symbol{}) || is || err != api.OK {
			t.Errorf("%s: Find of %q is %+v, %v (%v), want none", what, name, x, is, err)
		}
	}
}

func TestTheDocumentsExamples(t *testing.T) {
	table := []byte{1, 0, 0, 0, 0x0F, 1, 0, 0, 8, 0, 0, 0, 0, 0, 0, 0}
	names := []byte{0, 'a', 0}
	told(t, "of a section", table, names, 1, api.Symbol{Name: "a", Section: 1, Value: 8})
	for _, kind := range []byte{0x0E, 0x1F, 0x01, 0x2F} {
		table[4] = kind
		told(t, "nothing", table, names, 1)
		absent(t, "nothing", table, names, 1, "a")
	}
}

func TestNoEntries(t *testing.T) {
	for _, table := range [][]byte{nil, {}} {
		for _, names := range [][]byte{nil, {}, {0}, []byte("a"), []byte("\x00a\x00")} {
			for _, sections := range []int{math.MinInt, -1, 0, 1, 255, math.MaxInt} {
				told(t, "no entries", table, names, sections)
				absent(t, "no entries", table, names, sections, "", "a", "\x00", strings.Repeat("a", 256))
			}
		}
	}
}

// TestEachType: of two of them a name is told, and of no other one.
func TestEachType(t *testing.T) {
	names := []byte("\x00name\x00")
	for kind := range 256 {
		table := drawn(row{place: 1, kind: byte(kind), section: 3, value: 9})
		switch kind {
		case 0x0F:
			told(t, "of a section", table, names, 3, api.Symbol{Name: "name", Section: 3, Value: 9})
			refused(t, "of a section that there is not", table, names, 2, api.ErrSymtab)
		case 0x03:
			told(t, "absolute", table, names, 3, api.Symbol{Name: "name", Value: 9})
			told(t, "absolute, of whatever section", table, names, 2, api.Symbol{Name: "name", Value: 9})
		default:
			told(t, "nothing", table, names, 3)
			absent(t, "nothing", table, names, 3, "name")
		}
	}
}

// TestOfOtherEntriesNothingIsLookedAt: whatever they say, names that are told elsewhere with it.
func TestOfOtherEntriesNothingIsLookedAt(t *testing.T) {
	names := []byte("\x00a\x00" + strings.Repeat("l", 300) + "\x00end")
	a := row{place: 1, kind: 0x0F, section: 1, value: 5}
	for kind := range 256 {
		if kind == 0x0F || kind == 0x03 {
			continue
		}
		for _, place := range []uint32{0, 1, 2, 3, 304, 306, 307, 308, math.MaxUint32} {
			for _, section := range []byte{0, 1, 2, 255} {
				other := row{place: place, kind: byte(kind), section: section, description: 0xFFFF, value: math.MaxUint64}
				want := api.Symbol{Name: "a", Section: 1, Value: 5}
				for _, table := range [][]byte{drawn(a, other), drawn(other, a), drawn(other, a, other, other)} {
					l, err := nlist.All(table, names, 1)
					if len(l) != 1 || l[0] != want || err != api.OK {
						t.Fatalf("type %x, place %d, section %d: %v (%v)", kind, place, section, l, err)
					}
				}
			}
		}
	}
}

// TestEachDescription: one bit of it is looked at.
func TestEachDescription(t *testing.T) {
	names := []byte("\x00a\x00b\x00")
	for description := range 1 << 16 {
		d := uint16(description)
		is := description%256 >= 128
		l, err := nlist.All(drawn(row{1, 0x0F, 1, d, 7}, row{3, 0x03, 0, d, 8}), names, 1)
		want := []api.Symbol{{Name: "a", Section: 1, Value: 7, Weak: is}, {Name: "b", Value: 8, Weak: is}}
		if !slices.Equal(l, want) || err != api.OK {
			t.Fatalf("description %x: %v (%v)", description, l, err)
		}
	}
}

// TestNumbersStandLowestFirst: by its bytes.
func TestNumbersStandLowestFirst(t *testing.T) {
	names := append(make([]byte, 0x010203), "name\x00"...)
	table := []byte{3, 2, 1, 0, 0x0F, 9, 0x80, 0, 1, 2, 3, 4, 5, 6, 7, 0x88}
	told(t, "of a section", table, names, 9, api.Symbol{Name: "name", Section: 9, Value: 0x8807060504030201, Weak: true})
	table[6], table[7] = 0, 0x80
	told(t, "of another bit of the description", table, names, 9, api.Symbol{Name: "name", Section: 9, Value: 0x8807060504030201})
	for _, n := range []uint64{0, 1, 255, 256, 1 << 31, 1 << 32, 1 << 47, 1 << 63, math.MaxUint64} {
		for _, kind := range []byte{0x0F, 0x03} {
			x := api.Symbol{Name: "name", Value: n}
			if kind == 0x0F {
				x.Section = 1
			}
			told(t, "a value", drawn(row{place: 0x010203, kind: kind, section: 1, value: n}), names, 1, x)
		}
	}
}

// TestSections: each one, of each number of them.
func TestSections(t *testing.T) {
	names := []byte("\x00a\x00")
	for _, sections := range []int{math.MinInt, math.MinInt32, -256, -1, 0, 1, 2, 63, 64, 65, 127, 128, 253, 254, 255, 256, 257, 512, math.MaxInt32, math.MaxInt} {
		for section := range 256 {
			table := drawn(row{place: 1, kind: 0x0F, section: byte(section), value: 5})
			if section >= 1 && section <= sections {
				told(t, "a section that there is", table, names, sections, api.Symbol{Name: "a", Section: section, Value: 5})
			} else {
				refused(t, "a section that there is not", table, names, sections, api.ErrSymtab)
			}
			table[4] = 0x03
			told(t, "an absolute one", table, names, sections, api.Symbol{Name: "a", Value: 5})
		}
	}
}

// TestPlaces: a name begins anywhere in the strings, ends there, and has bytes.
func TestPlaces(t *testing.T) {
	names := []byte("\x00a\x00bcd\x00\x00_e\xff \x01\x00open")
	for _, kind := range []byte{0x0F, 0x03} {
		for place := range uint32(40) {
			table := drawn(row{place: place, kind: kind, section: 1})
			x := api.Symbol{}
			if kind == 0x0F {
				x.Section = 1
			}
			if place < 13 && names[place] != 0 {
				x.Name = string(names[place : int(place)+bytes.IndexByte(names[place:], 0)])
				told(t, "a name", table, names, 1, x)
			} else {
				refused(t, "no name", table, names, 1, api.ErrSymtab)
			}
		}
		for _, place := range []uint32{1 << 15, 1 << 16, 1<<16 + 1, 1<<24 + 1, 1<<31 - 1, 1 << 31, 1<<31 + 1, math.MaxUint32 - 1, math.MaxUint32} {
			refused(t, "a place far behind", drawn(row{place: place, kind: kind, section: 1}), names, 1, api.ErrSymtab)
		}
		for _, none := range [][]byte{nil, {}} {
			refused(t, "no strings", drawn(row{kind: kind, section: 1}), none, 1, api.ErrSymtab)
		}
		refused(t, "strings of a 0 alone", drawn(row{kind: kind, section: 1}), []byte{0}, 1, api.ErrSymtab)
	}
	// A name that begins within another one is another one.
	told(t, "names that end alike", drawn(row{3, 0x0F, 1, 0, 1}, row{5, 0x03, 0, 0, 2}, row{4, 0x0F, 2, 0x80, 3}), names, 2,
		api.Symbol{Name: "bcd", Section: 1, Value: 1}, api.Symbol{Name: "d", Value: 2}, api.Symbol{Name: "cd", Section: 2, Value: 3, Weak: true})
	// The strings may begin with a name.
	told(t, "a name at 0", drawn(row{0, 0x03, 0, 0, 1}), []byte("ab\x00"), 0, api.Symbol{Name: "ab", Value: 1})
}

// TestLongNames: one of 255 bytes is told, a longer one is another error than one that does not end.
func TestLongNames(t *testing.T) {
	for _, kind := range []byte{0x0F, 0x03} {
		for _, size := range []int{1, 2, 127, 128, 253, 254, 255, 256, 257, 511, 512, 1000, 1 << 20} {
			name := strings.Repeat("n", size)
			table := drawn(row{place: 1, kind: kind, section: 1})
			x := api.Symbol{Name: name}
			if kind == 0x0F {
				x.Section = 1
			}
			for _, behind := range []string{"", "x", "\x00", "x\x00"} {
				names := []byte("\x00" + name + "\x00" + behind)
				if size <= 255 {
					told(t, "a name", table, names, 1, x)
				} else {
					refused(t, "a long name", table, names, 1, api.ErrName)
					told(t, "the end of a long name", drawn(row{place: uint32(1 + size - 255), kind: kind, section: 1}), names, 1, api.Symbol{Name: name[size-255:], Section: x.Section})
				}
			}
			refused(t, "a name without an end", table, []byte("\x00"+name), 1, api.ErrSymtab)
		}
	}
}

// TestTwice: a name that was told already, wherever it stands, whatever else is said of it.
func TestTwice(t *testing.T) {
	names := []byte("\x00ab\x00b\x00xab\x00B\x00b")
	first := []row{{4, 0x0F, 1, 0, 1}, {4, 0x03, 0, 0x80, 2}, {2, 0x0F, 2, 0, 3}, {8, 0x03, 0, 0, 1}}
	other := row{6, 0x0F, 2, 0, 9}
	for _, x := range first {
		for _, y := range first {
			refused(t, "twice", drawn(x, y), names, 2, api.ErrTwice)
			refused(t, "twice, and one between", drawn(x, other, y), names, 2, api.ErrTwice)
			y.kind |= 0x10
			l, err := checkAll(t, drawn(x, other, y), names, 2)
			if len(l) != 2 || err != api.OK {
				t.Errorf("twice, one of which is private: %v (%v)", l, err)
			}
		}
		l, err := checkAll(t, drawn(x, row{1, 0x03, 0, 0, 1}, row{10, 0x03, 0, 0, 1}), names, 2)
		if len(l) != 3 || err != api.OK {
			t.Errorf("names nearly alike: %v (%v)", l, err)
		}
	}
}

// numbered are so many names, each of another number, one behind the other, and where each one stands.
func numbered(many int) ([]byte, []uint32) {
	names := []byte{0}
	var places []uint32
	for i := range many {
		places = append(places, uint32(len(names)))
		names = append(names, fmt.Sprintf("_n%d\x00", i)...)
	}
	return names, places
}

// TestManyNames: 4096 are told, and no more; others, of which no name is told, count for nothing.
func TestManyNames(t *testing.T) {
	names, places := numbered(4097)
	long := uint32(len(names))
	names = append(names, strings.Repeat("l", 256)+"\x00open"...)
	var l []row
	var want []api.Symbol
	for i, place := range places {
		r := row{place: place, kind: 0x0F, section: byte(1 + i%200), value: uint64(i)}
		x := api.Symbol{Name: fmt.Sprintf("_n%d", i), Section: 1 + i%200, Value: uint64(i)}
		if i%3 == 0 {
			r.kind, x.Section = 0x03, 0
		}
		l, want = append(l, r), append(want, x)
	}
	told(t, "4095 names", drawn(l[:4095]...), names, 200, want[:4095]...)
	told(t, "4096 names", drawn(l[:4096]...), names, 200, want[:4096]...)
	refused(t, "4097 names", drawn(l...), names, 200, api.ErrMany)
	full := drawn(l[:4096]...)
	for _, x := range []struct {
		what string
		last row
		want api.Errno
	}{
		{"one that is told already", row{place: places[0], kind: 0x03}, api.ErrTwice},
		{"the one that is told last", row{place: places[4095], kind: 0x0F, section: 1}, api.ErrTwice},
		{"one of the section 0", row{place: places[4096], kind: 0x0F}, api.ErrSymtab},
		{"one of a section that there is not", row{place: places[4096], kind: 0x0F, section: 201}, api.ErrSymtab},
		{"one without bytes", row{place: 0, kind: 0x03}, api.ErrSymtab},
		{"one without an end", row{place: long + 257, kind: 0x03}, api.ErrSymtab},
		{"a long one", row{place: long, kind: 0x03}, api.ErrName},
		{"an absolute one", row{place: places[4096], kind: 0x03}, api.ErrMany},
		{"a weak one", row{place: places[4096], kind: 0x0F, section: 1, description: 0x80}, api.ErrMany},
		{"the end of another one", row{place: places[9] + 1, kind: 0x03}, api.ErrMany},
	} {
		table := x.last.put(slices.Clone(full))
		refused(t, "4096 names, and "+x.what, table, names, 200, x.want)
		// Whatever stands behind it is not gone to.
		refused(t, "4096 names, and "+x.what+", and one more", row{kind: 0x0F}.put(table), names, 200, x.want)
	}
	for _, kind := range []byte{0x0E, 0x1F, 0x13, 0x01, 0x23, 0xFF, 0} {
		table := slices.Clone(full)
		for i := range uint32(5000) {
			table = row{place: i, kind: kind}.put(table)
		}
		told(t, "4096 names, and others", table, names, 200, want[:4096]...)
	}
}

// TestTableOfJustEntries: one that has a part of an entry is refused ahead of all else.
func TestTableOfJustEntries(t *testing.T) {
	names := []byte("\x00a\x00b\x00")
	right := drawn(row{1, 0x0F, 1, 0, 1}, row{3, 0x03, 0, 0, 2}, row{}, row{})
	for size := range right {
		if size%16 == 0 {
			continue
		}
		refused(t, "a part of an entry", right[:size], names, 1, api.ErrSymtab)
		// Noughts are no names.
		refused(t, "a part of an entry of noughts", make([]byte, size), names, 1, api.ErrSymtab)
		refused(t, "a part of an entry, of no strings", make([]byte, size), nil, 0, api.ErrSymtab)
	}
	long := []byte(strings.Repeat("l", 300) + "\x00")
	for _, l := range [][]row{{{kind: 0x03}}, {{place: 50, kind: 0x03}, {place: 50, kind: 0x03}}} {
		refused(t, "a part of an entry behind a wrong one", append(drawn(l...), 0), long, 0, api.ErrSymtab)
	}
}

// TestWhichIsFirst: of two wrong entries the first tells the error, of two errors of one entry that which is named first.
func TestWhichIsFirst(t *testing.T) {
	names := []byte("\x00a\x00" + strings.Repeat("l", 256) + "\x00b\x00open")
	long, open := uint32(3), uint32(262)
	good := row{1, 0x0F, 1, 0, 1}
	wrong := []struct {
		r    row
		want api.Errno
	}{
		{row{260, 0x0F, 0, 0, 1}, api.ErrSymtab},
		{row{260, 0x0F, 2, 0, 1}, api.ErrSymtab},
		{row{0, 0x03, 0, 0, 1}, api.ErrSymtab},
		{row{open, 0x03, 0, 0, 1}, api.ErrSymtab},
		{row{1 << 30, 0x03, 0, 0, 1}, api.ErrSymtab},
		{row{long, 0x03, 0, 0, 1}, api.ErrName},
		{row{long, 0x0F, 1, 0, 1}, api.ErrName},
		{row{1, 0x03, 0, 0, 1}, api.ErrTwice},
		{row{1, 0x0F, 1, 0x80, 1}, api.ErrTwice},
		// Two errors of one.
		{row{long, 0x0F, 0, 0, 1}, api.ErrSymtab},
		{row{long, 0x0F, 2, 0, 1}, api.ErrSymtab},
		{row{1, 0x0F, 0, 0, 1}, api.ErrSymtab},
		{row{1, 0x0F, 255, 0, 1}, api.ErrSymtab},
	}
	for _, x := range wrong {
		refused(t, "one wrong entry", drawn(good, x.r), names, 1, x.want)
		refused(t, "one wrong entry, and a right one", drawn(good, x.r, row{260, 0x03, 0, 0, 1}), names, 1, x.want)
		for _, y := range wrong {
			refused(t, "two wrong entries", drawn(good, x.r, y.r), names, 1, x.want)
		}
	}
}

// TestOrder: all orders of four, of which one tells no name.
func TestOrder(t *testing.T) {
	names := []byte("\x00c\x00a\x00b\x00")
	rows := []row{{1, 0x0F, 1, 0, 7}, {3, 0x03, 0, 0x80, 6}, {5, 0x0F, 2, 0x80, 5}, {5, 0x1E, 9, 0, 4}}
	want := []api.Symbol{{Name: "c", Section: 1, Value: 7}, {Name: "a", Value: 6, Weak: true}, {Name: "b", Section: 2, Value: 5, Weak: true}}
	for i := range 4 {
		for j := range 4 {
			for k := range 4 {
				for m := range 4 {
					if i == j || i == k || i == m || j == k || j == m || k == m {
						continue
					}
					var l []api.Symbol
					for _, n := range []int{i, j, k, m} {
						if n < 3 {
							l = append(l, want[n])
						}
					}
					told(t, "in their order", drawn(rows[i], rows[j], rows[k], rows[m]), names, 2, l...)
				}
			}
		}
	}
}

// TestFindOfNoName: names that nearly are, and ones that stand in the strings alone.
func TestFindOfNoName(t *testing.T) {
	names := []byte("\x00_name\x00other\x00")
	table := drawn(row{1, 0x0F, 1, 0, 1}, row{7, 0x0E, 1, 0, 2})
	absent(t, "no name", table, names, 1, "", "_", "_nam", "_names", "name", "_Name", "_name\x00", "\x00_name", "\x00", "other", "_name\x00other", strings.Repeat("_name", 51), strings.Repeat("_name", 60), strings.Repeat("x", 1<<20))
}

func TestWhatIsToldIsNewMemory(t *testing.T) {
	names := []byte("\x00name\x00")
	table := drawn(row{1, 0x0F, 1, 0x80, 1})
	want := api.Symbol{Name: "name", Section: 1, Value: 1, Weak: true}
	l, _ := nlist.All(table, names, 1)
	again, _ := nlist.All(table, names, 1)
	x, _, _ := nlist.Find(table, names, 1, "name")
	again[0] = api.Symbol{}
	clear(names)
	clear(table)
	if x != want || l[0] != want {
		t.Errorf("what was told changes with the bytes: %v, %v", x, l)
	}
}
