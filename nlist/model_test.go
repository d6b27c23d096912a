package nlist_test

import (
	"bytes"
	"encoding/binary"
	"fmt"
	"slices"
	"testing"

	"clevis/api"
	"clevis/nlist"
)

// What the chapter says of tables, once more, so that the calls can be held against it whatever bytes there are.

// The limits that the document names.
const (
	mostName  = 255
	mostNames = 4096
	mostFile  = 1 << 20
)

// row is an entry as it is to be drawn.
type row struct {
	place       uint32
	kind        byte
	section     byte
	description uint16
	value       uint64
}

func (r row) put(b []byte) []byte {
	b = binary.LittleEndian.AppendUint32(b, r.place)
	b = append(b, r.kind, r.section)
	b = binary.LittleEndian.AppendUint16(b, r.description)
	return binary.LittleEndian.AppendUint64(b, r.value)
}

// drawn is the table of rows.
func drawn(l ...row) []byte {
	var b []byte
	for _, r := range l {
		b = r.put(b)
	}
	return b
}

// rowsOf are the rows of a table, as many as it has whole ones.
func rowsOf(table []byte) []row {
	var l []row
	for ; len(table) >= 16; table = table[16:] {
		l = append(l, row{
			place:       binary.LittleEndian.Uint32(table),
			kind:        table[4],
			section:     table[5],
			description: binary.LittleEndian.Uint16(table[6:]),
			value:       binary.LittleEndian.Uint64(table[8:]),
		})
	}
	return l
}

// isTold: is a name told of an entry of that type, and is it of a section?
func isTold(kind byte) (told, section bool) {
	if kind&0x01 == 0 || kind&0xE0 != 0 || kind&0x10 != 0 {
		return false, false
	}
	return kind&0x0E == 0x0E || kind&0x0E == 0x02, kind&0x0E == 0x0E
}

// nameAt is the text at a place; is one there?
func nameAt(names []byte, place uint32) (string, bool) {
	if int64(place) >= int64(len(names)) {
		return "", false
	}
	text, _, is := bytes.Cut(names[place:], []byte{0})
	return string(text), is && len(text) > 0
}

func wantAll(table, names []byte, sections int) ([]api.Symbol, api.Errno) {
	if len(table)%16 != 0 {
		return nil, api.ErrSymtab
	}
	var l []api.Symbol
	met := map[string]bool{}
	for _, r := range rowsOf(table) {
		told, section := isTold(r.kind)
		if !told {
			continue
		}
		x := api.Symbol{Value: r.value, Weak: r.description>>7&1 == 1}
		if section {
			x.Section = int(r.section)
			if x.Section < 1 || x.Section > sections {
				return nil, api.ErrSymtab
			}
		}
		name, is := nameAt(names, r.place)
		x.Name = name
		switch {
		case !is:
			return nil, api.ErrSymtab
		case len(name) > mostName:
			return nil, api.ErrName
		case met[name]:
			return nil, api.ErrTwice
		case len(l) == mostNames:
			return nil, api.ErrMany
		}
		met[name] = true
		l = append(l, x)
	}
	return l, api.OK
}

func wantMay(x api.Symbol) bool {
	if len(x.Name) < 1 || len(x.Name) > mostName || x.Section < 0 || x.Section > 255 {
		return false
	}
	for i := range len(x.Name) {
		if x.Name[i] == 0 {
			return false
		}
	}
	return true
}

func wantMake(l []api.Symbol) ([]byte, []byte, api.Errno) {
	for _, x := range l {
		if !wantMay(x) {
			return nil, nil, api.ErrArg
		}
	}
	if len(l) > mostNames {
		return nil, nil, api.ErrMany
	}
	var rows []row
	names := []byte{0}
	met := map[string]int{}
	for _, x := range l {
		r := row{place: uint32(len(names)), kind: 0x03, value: x.Value}
		if x.Section > 0 {
			r.kind, r.section = 0x0F, byte(x.Section)
		}
		if x.Weak {
			r.description = 0x0080
		}
		rows = append(rows, r)
		names = append(append(names, x.Name...), 0)
		met[x.Name]++
	}
	if len(names) > mostFile {
		return nil, nil, api.ErrMany
	}
	for _, many := range met {
		if many > 1 {
			return nil, nil, api.ErrTwice
		}
	}
	return drawn(rows...), names, api.OK
}

// brief tells bytes, if there are not too many.
func brief(b []byte) string {
	if len(b) > 400 {
		return fmt.Sprintf("%d bytes (% x ..)", len(b), b[:40])
	}
	return fmt.Sprintf("[% x]", b)
}

// briefly tells symbols, if there are not too many.
func briefly(l []api.Symbol) string {
	if len(l) > 20 {
		return fmt.Sprintf("%d symbols", len(l))
	}
	return fmt.Sprintf("%+v", l)
}

// checkAll holds All of any bytes, which are to stay as they are, against what is wanted.
func checkAll(t *testing.T, table, names []byte, sections int) ([]api.Symbol, api.Errno) {
	t.Helper()
	before, beforeNames := bytes.Clone(table), bytes.Clone(names)
	want, wantErr := wantAll(table, names, sections)
	got, err := nlist.All(table, names, sections)
	if !slices.Equal(got, want) || err != wantErr {
		t.Fatalf("All of %s, %s, %d: %s (%v), want %s (%v)", brief(table), brief(names), sections, briefly(got), err, briefly(want), wantErr)
	}
	if err != api.OK && got != nil {
		t.Fatalf("All of %s, %s, %d: a list beside %v", brief(table), brief(names), sections, err)
	}
	if !bytes.Equal(table, before) || !bytes.Equal(names, beforeNames) {
		t.Fatalf("All of %s, %s changed what was handed in", brief(before), brief(beforeNames))
	}
	return got, err
}

// checkFind holds Find of a name in any bytes, which are to stay as they are, against what is wanted.
func checkFind(t *testing.T, table, names []byte, sections int, name string) {
	t.Helper()
	before, beforeNames := bytes.Clone(table), bytes.Clone(names)
	var want api.Symbol
	wantIs := false
	l, wantErr := wantAll(table, names, sections)
	for _, x := range l {
		if x.Name == name {
			want, wantIs = x, true
		}
	}
	got, is, err := nlist.Find(table, names, sections, name)
	if got != want || is != wantIs || err != wantErr {
		t.Fatalf("Find of %q in %s, %s, %d: %+v, %v (%v), want %+v, %v (%v)", name, brief(table), brief(names), sections, got, is, err, want, wantIs, wantErr)
	}
	if !bytes.Equal(table, before) || !bytes.Equal(names, beforeNames) {
		t.Fatalf("Find in %s, %s changed what was handed in", brief(before), brief(beforeNames))
	}
}

// check holds All, and Find of each name that stands there or nearly so, and of others, against what is wanted.
func check(t *testing.T, table, names []byte, sections int, others ...string) {
	t.Helper()
	l, _ := checkAll(t, table, names, sections)
	for _, x := range l[:min(len(l), 10)] {
		others = append(others, x.Name, x.Name+"a", x.Name[1:])
	}
	for _, name := range append(others, "", "a", "zz") {
		checkFind(t, table, names, sections, name)
	}
}

// checkMake holds Make of any symbols, which are to stay as they are, against what is wanted.
func checkMake(t *testing.T, l ...api.Symbol) ([]byte, []byte, api.Errno) {
	t.Helper()
	before := slices.Clone(l)
	want, wantNames, wantErr := wantMake(l)
	table, names, err := nlist.Make(l...)
	if !bytes.Equal(table, want) || !bytes.Equal(names, wantNames) || err != wantErr {
		t.Fatalf("Make of %s: %s, %s (%v), want %s, %s (%v)", briefly(l), brief(table), brief(names), err, brief(want), brief(wantNames), wantErr)
	}
	if err != api.OK && (table != nil || names != nil) {
		t.Fatalf("Make of %s: bytes beside %v", briefly(l), err)
	}
	if !slices.Equal(l, before) {
		t.Fatalf("Make of %s changed what was handed in", briefly(before))
	}
	return table, names, err
}
