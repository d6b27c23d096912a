package nlist_test

import (
	"bytes"
	"math"
	"slices"
	"strings"
	"testing"

	"clevis/api"
	"clevis/nlist"
)

// P0.3 (within bounds)

// whole is a table of all kinds, its strings, and how many sections there are.
func whole(t testing.TB) ([]byte, []byte, int) {
	t.Helper()
	table, names, err := nlist.Make(
		api.Symbol{Name: "_a", Section: 1, Value: 0x1000},
		api.Symbol{Name: "_ab", Value: 1 << 40, Weak: true},
		api.Symbol{Name: "b", Section: 3, Value: 5, Weak: true},
		api.Symbol{Name: "c"},
	)
	if err != api.OK {
		t.Fatal(err)
	}
	return row{place: 1, kind: 0x0E, section: 9}.put(table), names, 3
}

// checkAny asks all that holds of any bytes.
func checkAny(t *testing.T, table, names []byte, sections int) {
	t.Helper()
	check(t, table, names, sections)
	stand(t, table, names, sections)
}

func TestCutShort(t *testing.T) {
	table, names, sections := whole(t)
	for n := range len(table) + 1 {
		for _, cut := range [][]byte{table[:n], table[:n:n], table[n:]} {
			checkAny(t, cut, names, sections)
		}
		if _, err := nlist.All(table[:n], names, sections); (err == api.OK) != (n%16 == 0) {
			t.Errorf("%d bytes of the table: %v", n, err)
		}
	}
	for n := range len(names) + 1 {
		for _, cut := range [][]byte{names[:n], names[:n:n], names[n:]} {
			checkAny(t, table, cut, sections)
		}
		// What stands behind a part of the strings is not its.
		if _, err := nlist.All(table, names[:n], sections); (err == api.OK) != (n == len(names)) {
			t.Errorf("%d bytes of the strings: %v", n, err)
		}
	}
	for n := -1; n <= sections+1; n++ {
		checkAny(t, table, names, n)
	}
}

func TestOneByteChanged(t *testing.T) {
	table, names, sections := whole(t)
	for i := range table {
		for v := range 256 {
			wrong := bytes.Clone(table)
			wrong[i] = byte(v)
			checkAny(t, wrong, names, sections)
		}
	}
	for i := range names {
		for v := range 256 {
			wrong := bytes.Clone(names)
			wrong[i] = byte(v)
			checkAny(t, table, wrong, sections)
		}
	}
}

func TestOneByteGoneOrMore(t *testing.T) {
	table, names, sections := whole(t)
	for i := range table {
		checkAny(t, slices.Delete(bytes.Clone(table), i, i+1), names, sections)
		checkAny(t, slices.Insert(bytes.Clone(table), i, make([]byte, 16)...), names, sections)
		checkAny(t, slices.Insert(bytes.Clone(table), i, bytes.Repeat([]byte{3}, 16)...), names, sections)
	}
	for i := range names {
		checkAny(t, table, slices.Delete(bytes.Clone(names), i, i+1), sections)
		for _, v := range []byte{0, 1, 'a', '_', 255} {
			checkAny(t, table, slices.Insert(bytes.Clone(names), i, v), sections)
		}
	}
}

// TestAllShortStrings: all strings of at most five bytes of some, each place in them.
func TestAllShortStrings(t *testing.T) {
	var names []byte
	var longer func()
	longer = func() {
		for first := range uint32(7) {
			for second := range uint32(7) {
				table := drawn(row{first, 0x0F, 1, 0, 1}, row{second, 0x03, 7, 0x80, 2})
				checkAll(t, table, names, 1)
				checkFind(t, table, names, 1, "a")
				stand(t, table, names, 1)
			}
		}
		if len(names) == 5 {
			return
		}
		for _, v := range []byte{0, 'a', 'b'} {
			names = append(names, v)
			longer()
			names = names[:len(names)-1]
		}
	}
	longer()
}

// TestTriples: all rows of three of some entries.
func TestTriples(t *testing.T) {
	names := []byte("\x00a\x00b\x00" + strings.Repeat("l", 256) + "\x00o")
	var some []row
	for _, kind := range []byte{0x0F, 0x03, 0x1F, 0x0E} {
		for _, place := range []uint32{0, 1, 3, 5, 262, math.MaxUint32} {
			some = append(some, row{place, kind, 1, uint16(place) << 7, uint64(kind)})
		}
	}
	some = append(some, row{1, 0x0F, 0, 0, 1}, row{1, 0x0F, 2, 0, 1}, row{3, 0x03, 2, 0, 1})
	for _, a := range some {
		for _, b := range some {
			for _, c := range some {
				checkAll(t, drawn(a, b, c), names, 1)
				checkFind(t, drawn(a, b, c), names, 1, "b")
			}
		}
	}
}

// TestTheStringsMayBeTheTable: nothing hangs on what bytes are shared by what is handed in.
func TestTheStringsMayBeTheTable(t *testing.T) {
	table, names, sections := whole(t)
	for i := range 16 {
		both := slices.Concat(table, names)
		l := rowsOf(both[:len(table)])
		for k := range l {
			l[k].place += uint32(len(table))
		}
		copy(both, drawn(l...))
		told, err := checkAll(t, both[:len(table)], both, sections)
		if len(told) != 4 || err != api.OK {
			t.Errorf("%v (%v)", told, err)
		}
		checkAny(t, both[i:], both[i:], sections)
		checkAny(t, both[:len(table)], both[:len(table)-i], sections)
	}
}

// TestManyBytes: any bytes, as many as a file has and more.
func TestManyBytes(t *testing.T) {
	for _, v := range []byte{0, 1, 3, 15, 127, 128, 255} {
		b := bytes.Repeat([]byte{v}, 1<<22)
		for _, other := range [][]byte{nil, {v}, b} {
			checkAll(t, b, other, 255)
			checkFind(t, b, other, math.MaxInt, "a")
			checkAll(t, b[1:], other, 255)
		}
	}
	// A name far behind.
	names := append(bytes.Repeat([]byte{'l'}, 1<<22), "\x00far\x00"...)
	told(t, "a name far behind", drawn(row{1<<22 + 1, 0x03, 0, 0, 1}, row{1<<22 - 255, 0x0F, 1, 0, 1}), names, 1,
		api.Symbol{Name: "far", Value: 1}, api.Symbol{Name: strings.Repeat("l", 255), Section: 1, Value: 1})
	refused(t, "a long name", drawn(row{1<<22 - 256, 0x0F, 1, 0, 1}), names, 1, api.ErrName)
}

// TestAllEndsAtTheFirstWrongEntry, whatever many stand behind it, and goes over all others.
func TestAllEndsAtTheFirstWrongEntry(t *testing.T) {
	names := []byte("\x00a\x00")
	many := bytes.Repeat(drawn(row{1, 0x03, 0, 0, 5}), 1<<18)
	refused(t, "one name many times", many, names, 0, api.ErrTwice)
	none := bytes.Repeat(drawn(row{1, 0x23, 0, 0, 5}), 1<<18)
	told(t, "others many times", none, names, 0)
	told(t, "others, and one", append(none, drawn(row{1, 0x03, 0, 0, 5})...), names, 0, api.Symbol{Name: "a", Value: 5})
}

func FuzzRead(f *testing.F) {
	table, names, sections := whole(f)
	f.Add(table, names, sections, "_a")
	f.Add(table[:33], names, sections, "b")
	f.Add(drawn(row{1, 0x03, 0, 0, 5}, row{1, 0x0F, 1, 0, 5}), []byte("\x00a\x00"), 1, "a")
	f.Add(drawn(row{1, 0x03, 0, 0, 5}), []byte("\x00"+strings.Repeat("a", 256)+"\x00"), 0, "")
	f.Fuzz(func(t *testing.T, table, names []byte, sections int, name string) {
		check(t, table, names, sections, name)
		stand(t, table, names, sections)
	})
}
