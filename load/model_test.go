package load_test

import (
	"bytes"
	"encoding/binary"
	"reflect"
	"testing"

	"clevis/api"
	"clevis/command"
	"clevis/load"
)

// What the document says of commands, once more, so that the calls can be held against it whatever bytes there are.

// least is how many bytes a command of the table has at least (of 19 without its sections); 0 of one that isn't there.
func least(cmd uint32) int {
	switch cmd {
	case 0x19:
		return 72
	case 0xD, 0xC, 0x80000018, 0x8000001F, 0x80000023, 2, 0x80000028:
		return 24
	case 0x22, 0x80000022:
		return 48
	case 0x80000033, 0x80000034:
		return 16
	}
	return 0
}

func at4(b []byte, i int) uint32 { return binary.LittleEndian.Uint32(b[i:]) }
func at8(b []byte, i int) uint64 { return binary.LittleEndian.Uint64(b[i:]) }

// cut is what stands ahead of the first 0.
func cut(b []byte) string {
	if i := bytes.IndexByte(b, 0); i >= 0 {
		b = b[:i]
	}
	return string(b)
}

// tooShort: has b fewer bytes than the command that it begins by needs?
func tooShort(b []byte) bool {
	return len(b) < 8 || len(b) < least(at4(b, 0))
}

func wantSegment(b []byte) (api.Segment, api.Errno) {
	if tooShort(b) {
		return api.Segment{}, api.ErrShort
	}
	if at4(b, 0) != 0x19 {
		return api.Segment{}, api.ErrCommand
	}
	count := int(at4(b, 64))
	if len(b) < 72+80*count {
		return api.Segment{}, api.ErrShort
	}
	s := api.Segment{Name: cut(b[8:24]), Addr: at8(b, 24), Size: at8(b, 32), Off: at8(b, 40), FileSize: at8(b, 48), Prot: int(at4(b, 60))}
	wrong := s.Prot > 7
	for i := range count {
		x := b[72+80*i:][:80]
		wrong = wrong || cut(x[16:32]) != s.Name
		s.Sections = append(s.Sections, api.Section{Name: cut(x[:16]), Segment: cut(x[16:32]), Addr: at8(x, 32), Size: at8(x, 40), Off: uint64(at4(x, 48)), Kind: int(x[64])})
	}
	switch {
	case wrong:
		return api.Segment{}, api.ErrSection
	case count > 64:
		return api.Segment{}, api.ErrMany
	}
	return s, api.OK
}

func wantName(b []byte) (string, api.Errno) {
	if tooShort(b) {
		return "", api.ErrShort
	}
	switch at4(b, 0) {
	case 0xD, 0xC, 0x80000018, 0x8000001F, 0x80000023:
	default:
		return "", api.ErrCommand
	}
	where := int(at4(b, 8))
	if where >= len(b) {
		return "", api.ErrName
	}
	if n := bytes.IndexByte(b[where:], 0); n < 1 || n > 255 {
		return "", api.ErrName
	}
	return cut(b[where:]), api.OK
}

func wantSpans(b []byte) ([]api.Span, api.Errno) {
	if tooShort(b) {
		return nil, api.ErrShort
	}
	span := func(i int) api.Span { return api.Span{Off: uint64(at4(b, i)), Size: uint64(at4(b, i+4))} }
	switch at4(b, 0) {
	case 0x22, 0x80000022:
		return []api.Span{span(8), span(16), span(24), span(32), span(40)}, api.OK
	case 0x80000033, 0x80000034:
		return []api.Span{span(8)}, api.OK
	case 2:
		return []api.Span{{Off: uint64(at4(b, 8)), Size: 16 * uint64(at4(b, 12))}, span(16)}, api.OK
	}
	return nil, api.ErrCommand
}

// wantTwice: may m not take in that, as it stands already? said counts what was met.
func wantTwice(said map[string]int, what string) api.Errno {
	said[what]++
	if said[what] > 1 {
		return api.ErrTwice
	}
	return api.OK
}

// wantMany is ErrMany where an image has more than the limits say.
func wantMany(m *api.Image) api.Errno {
	sections := 0
	for _, s := range m.Segments {
		sections += len(s.Sections)
	}
	if len(m.Segments) > 16 || sections > 64 || len(m.Deps) > 64 {
		return api.ErrMany
	}
	return api.OK
}

// wantSpansIn takes in spans, of a command that has them.
func wantSpansIn(m *api.Image, said map[string]int, cmd uint32, l []api.Span) api.Errno {
	trie := api.Span{}
	err := api.OK
	switch cmd {
	case 0x22, 0x80000022:
		err = wantTwice(said, "info")
		m.Rebase, m.Bind, m.Weak, m.Lazy, trie = l[0], l[1], l[2], l[3], l[4]
	case 0x80000033:
		trie = l[0]
	case 0x80000034:
		err = wantTwice(said, "chains")
		m.Chains = l[0]
	case 2:
		err = wantTwice(said, "symbols")
		m.Symbols, m.Strings = l[0], l[1]
	}
	if err == api.OK && trie.Size > 0 {
		m.Trie = trie
		err = wantTwice(said, "trie")
	}
	return err
}

// wantIn takes in a command.
func wantIn(m *api.Image, said map[string]int, b []byte) api.Errno {
	cmd, name := at4(b, 0), ""
	err := api.OK
	switch cmd {
	case 0x19:
		s, err := wantSegment(b)
		if err != api.OK {
			return err
		}
		m.Segments = append(m.Segments, s)
	case 0xD, 0xC, 0x80000018, 0x8000001F, 0x80000023:
		if name, err = wantName(b); err != api.OK {
			return err
		}
		if cmd == 0xD {
			m.Name = name
			return wantTwice(said, "D")
		}
		kind := map[uint32]api.DepKind{0xC: 1, 0x80000018: 2, 0x8000001F: 3, 0x80000023: 4}[cmd]
		m.Deps = append(m.Deps, api.Dep{Name: name, Kind: kind})
	case 0x22, 0x80000022, 0x80000033, 0x80000034, 2:
		l, err := wantSpans(b)
		if err != api.OK {
			return err
		}
		return wantSpansIn(m, said, cmd, l)
	case 0x80000028:
		if tooShort(b) {
			return api.ErrShort
		}
		m.Entry, m.HasEntry = at8(b, 8), true
		return wantTwice(said, "entry")
	default:
		if cmd >= 0x80000000 {
			return api.ErrCommand
		}
	}
	return wantMany(m)
}

func wantImage(b []byte) (api.Image, api.Errno) {
	h, l, err := command.Read(b)
	if err != api.OK {
		return api.Image{}, err
	}
	m := api.Image{Kind: h.Kind, Sub: h.Sub, Flags: h.Flags}
	said := map[string]int{}
	for _, c := range l {
		if err := wantIn(&m, said, c.Bytes); err != api.OK {
			return api.Image{}, err
		}
	}
	return m, api.OK
}

// check holds Image of any bytes, which are to stay as they are, against what is wanted.
func check(t *testing.T, b []byte) {
	t.Helper()
	before := bytes.Clone(b)
	want, wantErr := wantImage(before)
	m, err := load.Image(b)
	if !reflect.DeepEqual(m, want) || err != wantErr {
		t.Fatalf("Image of % x: %v (%v), want %v (%v)", before, m, err, want, wantErr)
	}
	if !bytes.Equal(b, before) {
		t.Fatalf("what was handed in was changed: % x, it was % x", b, before)
	}
}

// checkParts holds Segment, Name, Spans and Known of any bytes, which are to stay as they are, against what is wanted.
func checkParts(t *testing.T, b []byte) {
	t.Helper()
	before := bytes.Clone(b)
	wantS, wantErr := wantSegment(before)
	if s, err := load.Segment(b); !reflect.DeepEqual(s, wantS) || err != wantErr {
		t.Fatalf("Segment of % x: %v (%v), want %v (%v)", before, s, err, wantS, wantErr)
	}
	wantN, wantErr := wantName(before)
	if name, err := load.Name(b); name != wantN || err != wantErr {
		t.Fatalf("Name of % x: %q (%v), want %q (%v)", before, name, err, wantN, wantErr)
	}
	wantL, wantErr := wantSpans(before)
	if l, err := load.Spans(b); !reflect.DeepEqual(l, wantL) || err != wantErr {
		t.Fatalf("Spans of % x: %v (%v), want %v (%v)", before, l, err, wantL, wantErr)
	}
	if len(b) >= 4 && load.Known(at4(b, 0)) != (least(at4(b, 0)) > 0) {
		t.Fatalf("Known of %x", at4(b, 0))
	}
	if !bytes.Equal(b, before) {
		t.Fatalf("what was handed in was changed: % x, it was % x", b, before)
	}
}

// told asks that Image answers that.
func told(t *testing.T, what string, want api.Image, l ...[]byte) {
	t.Helper()
	b := whole(l...)
	if m, err := load.Image(b); !reflect.DeepEqual(m, want) || err != api.OK {
		t.Errorf("%s: Image is %+v (%v), want %+v", what, m, err, want)
	}
	check(t, b)
}

// refused asks that Image answers that, and nothing beside it.
func refused(t *testing.T, what string, want api.Errno, l ...[]byte) {
	t.Helper()
	b := whole(l...)
	if m, err := load.Image(b); !reflect.DeepEqual(m, api.Image{}) || err != want {
		t.Errorf("%s: Image is %+v (%v), want %v", what, m, err, want)
	}
	check(t, b)
}
