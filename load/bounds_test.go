package load_test

import (
	"bytes"
	"math"
	"reflect"
	"slices"
	"testing"

	"clevis/api"
	"clevis/load"
)

// P5.3 (what follows), and P0.3 (within bounds)

func TestBytesBehindTheCommandsDoNotMatter(t *testing.T) {
	b := headed(2, 6, 0x85, append(onesOfEach(), of(0x80000033, n4(9, 0)))...)
	want, err := load.Image(b)
	if err != api.OK {
		t.Fatal(err)
	}
	for _, n := range []int{1, 8, 100, 1 << 20, 1 << 22} {
		for _, v := range []byte{0, 1, 0xFF} {
			long := append(bytes.Clone(b), bytes.Repeat([]byte{v}, n)...)
			if m, err := load.Image(long); !reflect.DeepEqual(m, want) || err != api.OK {
				t.Errorf("%d bytes of %d behind: %+v (%v)", n, v, m, err)
			}
		}
	}
	// Whole commands behind those that are counted are no commands of the image.
	more := append(bytes.Clone(b), slices.Concat(of(0x80000099), named(0xD, "again"), named(0xC, "x"))...)
	if m, err := load.Image(more); !reflect.DeepEqual(m, want) || err != api.OK {
		t.Errorf("commands behind: %+v (%v)", m, err)
	}
}

// TestBytesLeftOfTheCommandsDoNotMatter: they are among those that the header says, but behind the last command.
func TestBytesLeftOfTheCommandsDoNotMatter(t *testing.T) {
	b := whole(named(0xC, "x"), of(0x80000099))
	copy(b[16:], n4(1))
	if m, err := load.Image(b); !reflect.DeepEqual(m, exec(deps(api.Dep{Name: "x", Kind: api.DepLoad}))) || err != api.OK {
		t.Errorf("%+v (%v)", m, err)
	}
	check(t, b)
}

func TestANameDoesNotEndBehindTheCommands(t *testing.T) {
	b := whole(of(0xD, n4(24, 0, 0, 0), []byte("abcdefgh")))
	for _, behind := range [][]byte{nil, {0}, []byte("i\x00"), make([]byte, 100)} {
		if m, err := load.Image(append(bytes.Clone(b), behind...)); !reflect.DeepEqual(m, api.Image{}) || err != api.ErrName {
			t.Errorf("%+v (%v)", m, err)
		}
	}
}

func TestWhatIsAnsweredIsNewMemory(t *testing.T) {
	l := onesOfEach()
	b := whole(l...)
	want, _ := load.Image(b)
	m, _ := load.Image(b)
	clear(b)
	if !reflect.DeepEqual(m, want) {
		t.Errorf("the image changes with the bytes")
	}
	_ = append(m.Segments[:1], api.Segment{Name: "other"})
	m.Segments[0].Sections = append(m.Segments[0].Sections, api.Section{Name: "other"})
	m.Deps[0].Name = "other"
	if again, _ := load.Image(whole(l...)); !reflect.DeepEqual(again, want) {
		t.Errorf("an image changes with another one")
	}
	two := [][]byte{segment(text("a", 3)), segment(text("b", 3))}
	m, _ = load.Image(whole(two...))
	m.Segments[0].Sections = append(m.Segments[0].Sections, api.Section{Name: "other"})
	clear(m.Segments[0].Sections)
	if !reflect.DeepEqual(m.Segments[1], text("b", 3)) {
		t.Errorf("a segment's sections change with another one's")
	}
}

// seeds are commands of each kind, small ones, right and wrong.
func seeds() [][]byte {
	l := append(onesOfEach(), others()...)
	twoNames := text("ab", 2)
	twoNames.Sections[1].Segment = "b"
	return append(l, segment(twoNames), named(0xD, ""), of(0xC, n4(24, 0, 0, 0), []byte("abcdefgh")), of(0x80000099), of(0))
}

func TestCommandsThatAreCutShort(t *testing.T) {
	for _, b := range seeds() {
		for n := range len(b) + 1 {
			checkParts(t, b[:n])
			// What stands behind a part of the bytes is not theirs.
			checkParts(t, b[:n:n])
			if n >= 8 {
				check(t, whole(of(at4(b, 0), b[8:n])))
			}
		}
	}
}

func TestCommandsWithOneByteChanged(t *testing.T) {
	for _, b := range seeds() {
		for i := range b {
			for v := range 256 {
				changed := bytes.Clone(b)
				changed[i] = byte(v)
				checkParts(t, changed)
				check(t, whole(changed))
			}
		}
	}
}

func TestImagesThatAreCutShort(t *testing.T) {
	b := headed(2, 6, 0x85, onesOfEach()...)
	for n := range len(b) + 1 {
		check(t, b[:n])
		check(t, b[:n:n])
	}
}

func TestImagesWithOneByteChanged(t *testing.T) {
	b := headed(2, 6, 0x85, append(onesOfEach(), of(0x80000033, n4(6, 0)))...)
	for i := range b {
		for v := range 256 {
			changed := bytes.Clone(b)
			changed[i] = byte(v)
			check(t, changed)
		}
	}
}

// TestPairsAndTriples: each two and three of the commands, in each order.
func TestPairsAndTriples(t *testing.T) {
	l := seeds()
	for _, x := range l {
		for _, y := range l {
			check(t, whole(x, y))
			for _, z := range l {
				check(t, whole(x, y, z))
			}
		}
	}
}

func TestManyCommands(t *testing.T) {
	for _, b := range seeds() {
		for _, n := range []int{15, 16, 17, 31, 32, 33, 63, 64, 65, 256, 257} {
			check(t, whole(slices.Repeat([][]byte{b}, n)...))
		}
	}
}

func TestAFileFullOfSections(t *testing.T) {
	n := (api.MaxFile - 72) / 80
	b := of(0x19, make([]byte, 64+80*n))
	copy(b[64:], n4(uint32(n)))
	isSegment(t, "a file of sections", b, api.Segment{}, api.ErrMany)
	// The last section's segment has another name.
	b[72+80*(n-1)+16] = 1
	isSegment(t, "a file of sections, the last one wrong", b, api.Segment{}, api.ErrSection)
	copy(b[64:], n4(math.MaxUint32))
	isSegment(t, "more than a file of sections", b, api.Segment{}, api.ErrShort)
}

func FuzzParts(f *testing.F) {
	for _, b := range seeds() {
		f.Add(b)
	}
	f.Fuzz(func(t *testing.T, b []byte) {
		checkParts(t, b)
		if len(b) >= 8 {
			check(t, whole(of(at4(b, 0), b[8:])))
		}
	})
}

func FuzzImage(f *testing.F) {
	f.Add(whole(onesOfEach()...))
	for _, b := range seeds() {
		f.Add(whole(b))
	}
	f.Fuzz(func(t *testing.T, b []byte) { check(t, b) })
}
