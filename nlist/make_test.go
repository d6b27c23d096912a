package nlist_test

import (
	"bytes"
	"math"
	"slices"
	"strings"
	"testing"

	"clevis/api"
	"clevis/nlist"
)

// P10.2 (May, Make)

// made asks that Make answers those bytes.
func made(t *testing.T, what string, table []byte, names string, l ...api.Symbol) {
	t.Helper()
	gotTable, gotNames, err := nlist.Make(l...)
	if !bytes.Equal(gotTable, table) || string(gotNames) != names || err != api.OK {
		t.Errorf("%s: [% x], %q (%v), want [% x], %q", what, gotTable, gotNames, err, table, names)
	}
	checkMake(t, l...)
}

// unmade asks that Make answers that error, and nothing beside it.
func unmade(t *testing.T, what string, want api.Errno, l ...api.Symbol) {
	t.Helper()
	if table, names, err := nlist.Make(l...); table != nil || names != nil || err != want {
		t.Errorf("%s: %s, %s (%v), want %v", what, brief(table), brief(names), err, want)
	}
	checkMake(t, l...)
}

// named are so many symbols of names of so many bytes, all of them other ones.
func named(many, size int) []api.Symbol {
	var l []api.Symbol
	for i := range many {
		name := bytes.Repeat([]byte{'_'}, size)
		for k, n := size-1, i; n > 0; n /= 25 {
			name[k] = byte('a' + n%25)
			k--
		}
		l = append(l, api.Symbol{Name: string(name), Section: i % 256, Value: uint64(i) << 30, Weak: i%3 == 0})
	}
	return l
}

func TestMay(t *testing.T) {
	long := strings.Repeat("n", 255)
	for _, x := range []struct {
		what string
		x    api.Symbol
		want bool
	}{
		{"nothing", api.Symbol{}, false},
		{"no name", api.Symbol{Section: 1, Value: 5}, false},
		{"an absolute one", api.Symbol{Name: "a"}, true},
		{"one of the first section", api.Symbol{Name: "a", Section: 1}, true},
		{"one of the last section", api.Symbol{Name: "a", Section: 255}, true},
		{"one of a section behind it", api.Symbol{Name: "a", Section: 256}, false},
		{"one of a section that goes round", api.Symbol{Name: "a", Section: 257}, false},
		{"one of a section far behind", api.Symbol{Name: "a", Section: math.MaxInt}, false},
		{"one of a section below 0", api.Symbol{Name: "a", Section: -1}, false},
		{"one of a section far below 0", api.Symbol{Name: "a", Section: math.MinInt}, false},
		{"one of a section of 32 bits", api.Symbol{Name: "a", Section: 1<<32 + 1}, false},
		{"a great value", api.Symbol{Name: "a", Section: 1, Value: math.MaxUint64}, true},
		{"a name of 255 bytes", api.Symbol{Name: long, Section: 1}, true},
		{"a name of 256 bytes", api.Symbol{Name: long + "n", Section: 1}, false},
		{"a name of many bytes", api.Symbol{Name: strings.Repeat("n", 1<<20), Section: 1}, false},
		{"a name of any other bytes", api.Symbol{Name: "\xff\x01 \n\x80"}, true},
		{"a name of 0 alone", api.Symbol{Name: "\x00"}, false},
		{"a name that begins with 0", api.Symbol{Name: "\x00a"}, false},
		{"a name that ends with 0", api.Symbol{Name: "a\x00"}, false},
		{"a name with 0", api.Symbol{Name: "a\x00b"}, false},
		{"a name of 255 bytes with 0", api.Symbol{Name: long[1:] + "\x00"}, false},
	} {
		for _, weak := range []bool{false, true} {
			x.x.Weak = weak
			if nlist.May(x.x) != x.want || wantMay(x.x) != x.want {
				t.Errorf("%s: may it be? %v", x.what, !x.want)
			}
			if _, _, err := checkMake(t, x.x); (err == api.OK) != x.want {
				t.Errorf("%s: Make of it: %v", x.what, err)
			}
		}
	}
}

// TestMayOfEach: names of each size and of each byte, sections of each number.
func TestMayOfEach(t *testing.T) {
	for size := range 600 {
		if is := nlist.May(api.Symbol{Name: strings.Repeat("n", size)}); is != (size >= 1 && size <= 255) {
			t.Errorf("may a name of %d bytes be? %v", size, is)
		}
	}
	for b := range 256 {
		for _, name := range []string{string([]byte{byte(b)}), string([]byte{byte(b), 'a'}), string([]byte{'a', byte(b)}), string([]byte{'a', byte(b), 'a'})} {
			if is := nlist.May(api.Symbol{Name: name, Section: 1}); is != (b != 0) {
				t.Errorf("may %q be? %v", name, is)
			}
		}
	}
	for section := -600; section < 600; section++ {
		if is := nlist.May(api.Symbol{Name: "a", Section: section}); is != (section >= 0 && section <= 255) {
			t.Errorf("may one of the section %d be? %v", section, is)
		}
	}
}

func TestMakeByItsBytes(t *testing.T) {
	made(t, "none", nil, "\x00")
	made(t, "an absolute one", []byte{1, 0, 0, 0, 3, 0, 0, 0, 7, 0, 0, 0, 0, 0, 0, 0}, "\x00a\x00", api.Symbol{Name: "a", Value: 7})
	made(t, "a weak absolute one", []byte{1, 0, 0, 0, 3, 0, 0x80, 0, 1, 2, 3, 4, 5, 6, 7, 0x88}, "\x00a\x00", api.Symbol{Name: "a", Value: 0x8807060504030201, Weak: true})
	made(t, "one of a section", []byte{1, 0, 0, 0, 0x0F, 1, 0, 0, 8, 0, 0, 0, 0, 0, 0, 0}, "\x00a\x00", api.Symbol{Name: "a", Section: 1, Value: 8})
	made(t, "a weak one of a section", []byte{1, 0, 0, 0, 0x0F, 255, 0x80, 0, 255, 255, 255, 255, 255, 255, 255, 255}, "\x00\xff\x01\x00", api.Symbol{Name: "\xff\x01", Section: 255, Value: math.MaxUint64, Weak: true})
	made(t, "three", []byte{
		1, 0, 0, 0, 0x0F, 2, 0, 0, 0, 0, 0, 0, 0, 0, 0, 0,
		5, 0, 0, 0, 0x03, 0, 0x80, 0, 0, 1, 0, 0, 0, 0, 0, 0,
		7, 0, 0, 0, 0x0F, 1, 0x80, 0, 9, 0, 0, 0, 0, 0, 0, 0,
	}, "\x00zab\x00a\x00ab\x00", api.Symbol{Name: "zab", Section: 2}, api.Symbol{Name: "a", Value: 256, Weak: true}, api.Symbol{Name: "ab", Section: 1, Value: 9, Weak: true})
	long := strings.Repeat("l", 255)
	made(t, "one behind a long one", []byte{
		1, 0, 0, 0, 3, 0, 0, 0, 0, 0, 0, 0, 0, 0, 0, 0,
		1, 1, 0, 0, 3, 0, 0, 0, 0, 0, 0, 0, 0, 0, 0, 0,
	}, "\x00"+long+"\x00b\x00", api.Symbol{Name: long}, api.Symbol{Name: "b"})
}

// TestMadeEntriesHaveNoOtherBits: of each section, weak or not.
func TestMadeEntriesHaveNoOtherBits(t *testing.T) {
	for section := range 256 {
		for _, weak := range []bool{false, true} {
			table, _, err := checkMake(t, api.Symbol{Name: "a", Section: section, Value: 1 << 63, Weak: weak})
			want := row{place: 1, kind: 0x0F, section: byte(section), value: 1 << 63}
			if section == 0 {
				want.kind = 0x03
			}
			if weak {
				want.description = 0x80
			}
			if l := rowsOf(table); len(l) != 1 || l[0] != want || err != api.OK {
				t.Errorf("section %d, weak %v: [% x] (%v)", section, weak, table, err)
			}
		}
	}
}

// TestMakeOfManySymbols: 4096, and no more; ahead of it each may be.
func TestMakeOfManySymbols(t *testing.T) {
	for _, many := range []int{1, 2, 255, 256, 257, 4095, 4096} {
		table, names, err := checkMake(t, named(many, 9)...)
		if len(table) != 16*many || len(names) != 1+10*many || err != api.OK {
			t.Errorf("%d symbols: %d, %d (%v)", many, len(table), len(names), err)
		}
	}
	for _, many := range []int{4097, 4098, 8192, 70000} {
		unmade(t, "too many", api.ErrMany, named(many, 9)...)
		for _, at := range []int{0, 4095, 4096, many - 1} {
			l := named(many, 9)
			l[at].Section = 256
			unmade(t, "too many, of which one may not be", api.ErrArg, l...)
		}
	}
	l := named(4097, 9)
	l[4096] = l[0]
	unmade(t, "too many, of which two are of one name", api.ErrMany, l...)
}

// TestMakeOfManyBytes: strings of MaxFile bytes, and no more.
func TestMakeOfManyBytes(t *testing.T) {
	l := named(4096, 255)
	unmade(t, "one byte too many", api.ErrMany, l...)
	twin := slices.Clone(l)
	twin[4095].Name = twin[7].Name
	unmade(t, "one byte too many, two of one name", api.ErrMany, twin...)
	wrong := slices.Clone(twin)
	wrong[4095].Section = -1
	unmade(t, "one byte too many, one that may not be", api.ErrArg, wrong...)
	for _, at := range []int{0, 2000, 4095} {
		full := slices.Clone(l)
		full[at].Name = full[at].Name[:254]
		table, names, err := checkMake(t, full...)
		if len(table) != 1<<16 || len(names) != api.MaxFile || err != api.OK {
			t.Errorf("just MaxFile bytes: %d, %d (%v)", len(table), len(names), err)
		}
		again(t, table, names, full)
		full[4094].Name = full[1].Name
		unmade(t, "just MaxFile bytes, two of one name", api.ErrTwice, full...)
	}
	table, names, err := checkMake(t, l[:4095]...)
	if len(table) != 16*4095 || len(names) != 1+256*4095 || err != api.OK {
		t.Errorf("one symbol fewer: %d, %d (%v)", len(table), len(names), err)
	}
}

// TestMakeTwice: two of one name, wherever they stand, whatever else they are.
func TestMakeTwice(t *testing.T) {
	l := named(5, 3)
	for i := range l {
		for j := range l {
			if i == j {
				continue
			}
			twin := slices.Clone(l)
			twin[i].Name = twin[j].Name
			unmade(t, "two of one name", api.ErrTwice, twin...)
			twin[i].Name = strings.ToUpper(twin[j].Name) + "x"
			checkMake(t, twin...)
			twin[i] = twin[j]
			unmade(t, "two that are the same", api.ErrTwice, twin...)
			for k := range l {
				wrong := slices.Clone(twin)
				wrong[k].Section = 256
				unmade(t, "two that are the same, and one that may not be", api.ErrArg, wrong...)
			}
		}
	}
	unmade(t, "two without a name", api.ErrArg, api.Symbol{}, api.Symbol{})
}

func TestWhatIsMadeIsNewMemory(t *testing.T) {
	l := named(3, 4)
	table, names, _ := nlist.Make(l...)
	wantTable, wantNames := bytes.Clone(table), bytes.Clone(names)
	otherTable, otherNames, _ := nlist.Make(l...)
	clear(otherTable)
	clear(otherNames)
	clear(l)
	if !bytes.Equal(table, wantTable) || !bytes.Equal(names, wantNames) {
		t.Errorf("what was made changes: [% x], %q", table, names)
	}
	// What is laid behind one of the two changes nothing of the other.
	_ = append(table[:0], bytes.Repeat([]byte{9}, cap(table))...)
	if !bytes.Equal(names, wantNames) {
		t.Errorf("the strings change with the table: %q", names)
	}
}
