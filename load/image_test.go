package load_test

import (
	"math"
	"reflect"
	"slices"
	"strings"
	"testing"

	"clevis/api"
	"clevis/load"
)

// P5.1 (Image)

// exec is what is told of an Exec without flags.
func exec(change ...func(*api.Image)) api.Image {
	m := api.Image{Kind: api.Exec}
	for _, c := range change {
		c(&m)
	}
	return m
}

func deps(l ...api.Dep) func(*api.Image) {
	return func(m *api.Image) { m.Deps = l }
}

func trie(s api.Span) func(*api.Image) {
	return func(m *api.Image) { m.Trie = s }
}

func TestImageOfAllThatIsKnown(t *testing.T) {
	want := api.Image{
		Kind: api.Dylib, Sub: 2, Flags: 0x40218085, Name: "/a",
		Segments: []api.Segment{
			{Name: "__PAGEZERO", Size: 1 << 32},
			{Name: "__TEXT", Addr: 1 << 32, Size: 8192, FileSize: 8192, Prot: 5, Sections: []api.Section{
				{Name: "s0", Segment: "__TEXT", Addr: 1 << 32, Size: 1},
				{Name: "s1", Segment: "__TEXT", Addr: 1<<32 + 1, Size: 1, Off: 1, Kind: 1},
			}},
		},
		Deps:   []api.Dep{{Name: "/lib/b", Kind: api.DepLoad}, {Name: "c", Kind: api.DepWeak}, {Name: "dd", Kind: api.DepReexport}, {Name: "eeeeeee", Kind: api.DepUpward}},
		Rebase: api.Span{Off: 0x100, Size: 1}, Bind: api.Span{Off: 0x200, Size: 2}, Weak: api.Span{Off: 0x300, Size: 3}, Lazy: api.Span{Off: 0x400, Size: 4}, Trie: api.Span{Off: 0x500, Size: 5},
		Chains: api.Span{Off: 0x600, Size: 6}, Symbols: api.Span{Off: 0x700, Size: 7 * 16}, Strings: api.Span{Off: 0x800, Size: 8},
		Entry: 0x900, HasEntry: true,
	}
	l := onesOfEach()
	b := headed(0x80000002, 6, 0x40218085, l...)
	if m, err := load.Image(b); !reflect.DeepEqual(m, want) || err != api.OK {
		t.Errorf("%+v (%v), want %+v", m, err, want)
	}
	check(t, b)
	// The other way round, all is the same but for the order of segments and dependencies.
	slices.Reverse(l)
	slices.Reverse(want.Segments)
	slices.Reverse(want.Deps)
	if m, err := load.Image(headed(2, 6, 0x40218085, l...)); !reflect.DeepEqual(m, want) || err != api.OK {
		t.Errorf("%+v (%v), want %+v", m, err, want)
	}
}

func TestImageOfNoCommands(t *testing.T) {
	for _, kind := range []api.ImageKind{api.Exec, api.Dylib} {
		for _, sub := range []int{0, 2} {
			for _, flags := range []uint32{0, 1, 0x85, math.MaxUint32} {
				b := headed(uint32(sub)|0xAB000000, uint32(kind), flags)
				if m, err := load.Image(b); !reflect.DeepEqual(m, api.Image{Kind: kind, Sub: sub, Flags: flags}) || err != api.OK {
					t.Errorf("%+v (%v)", m, err)
				}
				check(t, b)
			}
		}
	}
}

func TestTheExamples(t *testing.T) {
	told(t, "C, then 80000018", exec(deps(api.Dep{Name: "a", Kind: api.DepLoad}, api.Dep{Name: "b", Kind: api.DepWeak})), named(0xC, "a"), named(0x80000018, "b"))
	refused(t, "80000099", api.ErrCommand, of(0x80000099))
	told(t, "99", exec(), of(0x99))
}

func TestOtherCommands(t *testing.T) {
	for _, cmd := range []uint32{0, 1, 3, 0xB, 0xE, 0x18, 0x1A, 0x1B, 0x1F, 0x23, 0x28, 0x33, 0x34, 0x22222222, 0x4000000C, math.MaxInt32} {
		told(t, "let be", exec(), of(cmd))
		told(t, "let be twice", exec(deps(api.Dep{Name: "x", Kind: api.DepLoad})), of(cmd, n4(1, 2)), named(0xC, "x"), of(cmd))
	}
	for _, cmd := range []uint32{0x80000000, 0x80000002, 0x8000000C, 0x8000000D, 0x80000017, 0x80000019, 0x8000001C, 0x80000035, 0xC0000034, math.MaxUint32} {
		refused(t, "another cmd, with the highest bit 1", api.ErrCommand, of(cmd))
		refused(t, "the like, behind others", api.ErrCommand, named(0xC, "x"), of(1), of(cmd, n4(1, 2)))
	}
}

func TestWhatRawCommandsAreRefusedOf(t *testing.T) {
	fine := whole(named(0xC, "x"))
	for _, x := range []struct {
		what string
		at   int
		n    uint32
		want api.Errno
	}{
		{"the magic", 0, 0xFEEDFACE, api.ErrMagic},
		{"the cputype", 4, 7, api.ErrArch},
		{"the subtype", 8, 1, api.ErrArch},
		{"the filetype", 12, 8, api.ErrCommand},
		{"how many commands", 16, 257, api.ErrMany},
		{"how many bytes", 20, uint32(len(fine)) - 31, api.ErrShort},
		{"a command's bytes", 36, 12, api.ErrCommand},
		{"no bytes of a command", 36, 0, api.ErrCommand},
	} {
		b := slices.Clone(fine)
		copy(b[x.at:], n4(x.n))
		if m, err := load.Image(b); !reflect.DeepEqual(m, api.Image{}) || err != x.want {
			t.Errorf("%s: %+v (%v), want %v", x.what, m, err, x.want)
		}
		check(t, b)
	}
	// Raw commands are asked ahead of what any of them says.
	b := whole(of(0x80000099), named(0xC, ""), named(0xC, "x"))
	copy(b[len(b)-28:], n4(9))
	if _, err := load.Image(b); err != api.ErrCommand {
		t.Error(err)
	}
	if _, err := load.Image(b[:len(b)-8]); err != api.ErrShort {
		t.Error(err)
	}
	if _, err := load.Image(nil); err != api.ErrShort {
		t.Error(err)
	}
}

func TestCommandsThatAreTooShort(t *testing.T) {
	for _, cmd := range known() {
		n := least(cmd)
		for size := 8; size < n; size += 8 {
			refused(t, "a command that is too short", api.ErrShort, of(cmd, make([]byte, size-8)))
			refused(t, "the like, behind another one", api.ErrShort, of(1), of(cmd, make([]byte, size-8)))
		}
	}
	for count := 1; count < 4; count++ {
		b := segment(text("__TEXT", count))
		copy(b[64:], n4(uint32(count+1)))
		refused(t, "a section too few", api.ErrShort, b)
		copy(b[64:], n4(uint32(count)))
		refused(t, "8 bytes too few", api.ErrShort, of(0x19, b[8:len(b)-8]))
		told(t, "8 bytes more", exec(func(m *api.Image) { m.Segments = []api.Segment{text("__TEXT", count)} }), of(0x19, b[8:], make([]byte, 8)))
	}
	for _, count := range []uint32{1, 0x33333333, 0x80000000, 0x0CCCCCCD, math.MaxUint32} {
		b := segment(text("__TEXT", 0))
		copy(b[64:], n4(count))
		refused(t, "sections that there are not", api.ErrShort, b)
	}
}

func TestCommandsThatAreLonger(t *testing.T) {
	more := []byte{1, 2, 3, 4, 5, 6, 7, 8}
	for _, l := range [][][]byte{onesOfEach(), others()} {
		for _, b := range l {
			m, err := load.Image(whole(b))
			if err != api.OK {
				t.Fatalf("% x: %v", b, err)
			}
			told(t, "a command that is longer", m, of(at4(b, 0), b[8:], more))
		}
	}
}

func TestSecondOnes(t *testing.T) {
	own, chains, symbols, entry := named(0xD, "a"), of(0x80000034, n4(0, 0)), of(2, n4(0, 0, 0, 0)), of(0x80000028, n8(0, 0))
	for _, b := range [][]byte{own, chains, symbols, entry} {
		refused(t, "a second one", api.ErrTwice, b, b)
		refused(t, "a second one, not next", api.ErrTwice, b, named(0xC, "x"), of(1), b)
	}
	refused(t, "a second D, of another name", api.ErrTwice, own, named(0xD, "b"))
	refused(t, "a second one, of other spans", api.ErrTwice, chains, of(0x80000034, n4(8, 8)))
	refused(t, "a second one, of no bytes", api.ErrTwice, of(2, n4(8, 8, 8, 8)), symbols)
	for _, cmd := range []uint32{0x22, 0x80000022} {
		for _, other := range []uint32{0x22, 0x80000022} {
			refused(t, "spans twice", api.ErrTwice, of(cmd, make([]byte, 40)), of(other, make([]byte, 40)))
		}
	}
	told(t, "one of each", exec(func(m *api.Image) { m.Name, m.HasEntry = "a", true }), own, chains, symbols, entry, of(0x22, make([]byte, 40)), of(0x80000033, n4(0, 0)))
	told(t, "the same of what there may be several of", exec(deps(api.Dep{Name: "x", Kind: api.DepLoad}, api.Dep{Name: "x", Kind: api.DepLoad})), named(0xC, "x"), named(0xC, "x"), of(1), of(1))
}

func TestTries(t *testing.T) {
	info := func(cmd, off, size uint32) []byte { return of(cmd, make([]byte, 32), n4(off, size)) }
	alone := func(off, size uint32) []byte { return of(0x80000033, n4(off, size)) }
	want := exec(trie(api.Span{Off: 8, Size: 9}))
	told(t, "one alone", want, alone(8, 9))
	told(t, "of size 0", exec(), alone(8, 0))
	told(t, "of size 0 first", want, alone(1, 0), alone(8, 9))
	told(t, "of size 0 then", want, alone(8, 9), alone(1, 0))
	told(t, "of size 0 twice", exec(), alone(1, 0), alone(8, 0))
	told(t, "of size 0 all around", want, alone(1, 0), alone(1, 0), alone(8, 9), alone(1, 0), alone(1, 0))
	refused(t, "a second one", api.ErrTwice, alone(8, 9), alone(8, 9))
	refused(t, "a second one, behind one of size 0", api.ErrTwice, alone(8, 9), alone(8, 0), alone(0, 1))
	for _, cmd := range []uint32{0x22, 0x80000022} {
		told(t, "of spans", want, info(cmd, 8, 9))
		told(t, "of spans, of size 0", exec(), info(cmd, 8, 0))
		told(t, "of spans, then of size 0", want, info(cmd, 8, 9), alone(1, 0))
		told(t, "of size 0, then of spans", want, alone(1, 0), info(cmd, 8, 9))
		told(t, "of spans of size 0, then alone", want, info(cmd, 1, 0), alone(8, 9))
		told(t, "alone, then of spans of size 0", want, alone(8, 9), info(cmd, 1, 0))
		refused(t, "of spans, then alone", api.ErrTwice, info(cmd, 8, 9), alone(8, 9))
		refused(t, "alone, then of spans", api.ErrTwice, alone(8, 9), info(cmd, 8, 9))
		refused(t, "a second one of spans, of size 0", api.ErrTwice, info(cmd, 1, 0), info(cmd, 1, 0))
	}
}

func TestSpansOfSize0Stand(t *testing.T) {
	told(t, "spans of size 0", exec(func(m *api.Image) {
		m.Rebase.Off, m.Bind.Off, m.Weak.Off, m.Lazy.Off, m.Chains.Off, m.Symbols.Off, m.Strings.Off = 1, 2, 3, 4, 6, 7, 8
	}), of(0x22, n4(1, 0, 2, 0, 3, 0, 4, 0, 5, 0)), of(0x80000034, n4(6, 0)), of(2, n4(7, 0, 8, 0)))
}

func TestGreatNumbers(t *testing.T) {
	const most = math.MaxUint32
	great := api.Span{Off: most, Size: most}
	told(t, "the greatest spans", exec(func(m *api.Image) {
		m.Rebase, m.Bind, m.Weak, m.Lazy, m.Trie, m.Chains, m.Strings = great, great, great, great, great, great, great
		m.Symbols = api.Span{Off: most, Size: 16 * most}
		m.Entry, m.HasEntry = math.MaxUint64, true
	}), of(0x80000022, n4(most, most, most, most, most, most, most, most, most, most)), of(0x80000034, n4(most, most)), of(2, n4(most, most, most, most)), of(0x80000028, n8(math.MaxUint64, math.MaxUint64)))
	s := api.Segment{Name: strings.Repeat("n", 16), Addr: math.MaxUint64, Size: math.MaxUint64, Off: math.MaxUint64, FileSize: math.MaxUint64, Prot: 7}
	s.Sections = []api.Section{{Name: strings.Repeat("m", 16), Segment: s.Name, Addr: math.MaxUint64, Size: math.MaxUint64, Off: most, Kind: 255}}
	told(t, "the greatest segment", exec(func(m *api.Image) { m.Segments = []api.Segment{s} }), segment(s))
}

func TestTooManySegments(t *testing.T) {
	var l [][]byte
	var want []api.Segment
	for i := range 17 {
		s := text("s"+string(rune('a'+i)), i%2)
		l, want = append(l, segment(s)), append(want, s)
	}
	told(t, "16 segments", exec(func(m *api.Image) { m.Segments = want[:16] }), l[:16]...)
	refused(t, "17 segments", api.ErrMany, l...)
	hole := segment(api.Segment{Name: "hole"})
	refused(t, "16, and a hole", api.ErrMany, append(slices.Clone(l[:16]), hole)...)
}

func TestTooManySections(t *testing.T) {
	a, b := text("a", 40), text("b", 24)
	told(t, "64 sections", exec(func(m *api.Image) { m.Segments = []api.Segment{a, b} }), segment(a), segment(b))
	told(t, "64 sections, and none", exec(func(m *api.Image) { m.Segments = []api.Segment{a, b, text("c", 0)} }), segment(a), segment(b), segment(text("c", 0)))
	told(t, "64 sections of one segment", exec(func(m *api.Image) { m.Segments = []api.Segment{text("a", 64)} }), segment(text("a", 64)))
	refused(t, "65 sections of one segment", api.ErrMany, segment(text("a", 65)))
	refused(t, "65 sections", api.ErrMany, segment(a), segment(text("b", 25)))
	refused(t, "65 sections, the last alone", api.ErrMany, segment(a), segment(b), segment(text("c", 1)))
	refused(t, "64 sections, twice", api.ErrMany, segment(text("a", 64)), segment(text("b", 64)))
}

func TestTooManyDependencies(t *testing.T) {
	cmds := []uint32{0xC, 0x80000018, 0x8000001F, 0x80000023}
	var l [][]byte
	var want []api.Dep
	for i := range 65 {
		name := "/lib" + string(rune('!'+i))
		l, want = append(l, named(cmds[i%4], name)), append(want, api.Dep{Name: name, Kind: api.DepKind(1 + i%4)})
	}
	told(t, "64 dependencies", exec(deps(want[:64]...)), l[:64]...)
	refused(t, "65 dependencies", api.ErrMany, l...)
	told(t, "64, and a D", exec(deps(want[:64]...), func(m *api.Image) { m.Name = "me" }), append(slices.Clone(l[:64]), named(0xD, "me"))...)
}

// TestTheFirstErrorOfACommand: a command has several; the first of the chapter's order is answered.
func TestTheFirstErrorOfACommand(t *testing.T) {
	bad := text("a", 65)
	bad.Sections[64].Segment = "b"
	refused(t, "a wrong section, and too many", api.ErrSection, segment(bad))
	short := segment(bad)
	copy(short[64:], n4(66))
	refused(t, "too short, a wrong section, and too many", api.ErrShort, short)
	prot := text("a", 65)
	prot.Prot = 8
	refused(t, "a wrong Prot, and too many", api.ErrSection, segment(prot))
	var full [][]byte
	for range 64 {
		full = append(full, named(0xC, "x"))
	}
	refused(t, "a wrong name, and too many", api.ErrName, append(slices.Clone(full), named(0xC, ""))...)
	refused(t, "too short, and too many", api.ErrShort, append(slices.Clone(full), of(0xC, n4(0)))...)
	refused(t, "a wrong name, and a second one", api.ErrName, named(0xD, "a"), named(0xD, ""))
	refused(t, "too short, and a second one", api.ErrShort, named(0xD, "a"), of(0xD))
	refused(t, "too short, and a second one", api.ErrShort, of(0x80000028, n8(0, 0)), of(0x80000028, n8(0)))
	refused(t, "too short, and a second one", api.ErrShort, of(0x22, make([]byte, 40)), of(0x80000022, make([]byte, 32)))
	var many [][]byte
	for range 16 {
		many = append(many, segment(text("a", 4)))
	}
	bad = text("a", 1)
	bad.Sections[0].Segment = "b"
	refused(t, "a wrong section, a segment too many", api.ErrSection, append(slices.Clone(many), segment(bad))...)
}

// TestTheFirstCommandsError: several commands have one; that of the first is answered, whatever its kind.
func TestTheFirstCommandsError(t *testing.T) {
	bad := text("a", 1)
	bad.Prot = 9
	wrong := []struct {
		b    []byte
		want api.Errno
	}{
		{of(0xD), api.ErrShort},
		{of(0x80000099), api.ErrCommand},
		{segment(bad), api.ErrSection},
		{named(0xC, ""), api.ErrName},
		{named(0xD, "again"), api.ErrTwice},
		{segment(text("a", 65)), api.ErrMany},
	}
	for _, x := range wrong {
		for _, y := range wrong {
			refused(t, "two of them", x.want, named(0xD, "me"), x.b, y.b)
		}
	}
}
