package rebase_test

import (
	"bytes"
	"cmp"
	"encoding/binary"
	"fmt"
	"hash/crc32"
	"math"
	"math/big"
	"slices"
	"testing"

	"clevis/api"
	"clevis/rebase"
)

// What the chapter says of streams, once more, so that the calls can be held against it whatever bytes and images there are.

// mostFixups is the limit that the document names.
const mostFixups = 20000

// wantSegment is the number of the segment in which all of the 8 bytes at an address stand; below 0: none.
func wantSegment(m api.Image, addr uint64) int {
	for i, s := range m.Segments {
		if s.Prot == 0 && s.FileSize == 0 || addr < s.Addr || addr-s.Addr >= s.Size {
			continue
		}
		if s.Size-(addr-s.Addr) < 8 || addr > math.MaxUint64-7 {
			return -1
		}
		return i
	}
	return -1
}

// wantProt: may the 8 bytes at an address be written?
func wantProt(m api.Image, addr uint64) bool {
	i := wantSegment(m, addr)
	return i >= 0 && slices.Contains([]int{2, 3, 6, 7}, m.Segments[i].Prot)
}

// wantWord is the 8 bytes at an address that has a segment, as the file has them.
func wantWord(slice []byte, m api.Image, addr uint64) uint64 {
	s := m.Segments[wantSegment(m, addr)]
	var word [8]byte
	for k := range uint64(8) {
		if at := addr - s.Addr + k; s.Off <= uint64(len(slice)) && s.FileSize <= uint64(len(slice))-s.Off && at < s.FileSize {
			word[k] = slice[s.Off+at]
		}
	}
	return binary.LittleEndian.Uint64(word[:])
}

// model is how far a stream has come. A place is a number without bound; nil: there is none.
type model struct {
	slice []byte
	m     api.Image
	kind  int
	place *big.Int
	l     []api.Fixup
}

func (s *model) further(n uint64) api.Errno {
	if s.place.Add(s.place, new(big.Int).SetUint64(n)); !s.place.IsUint64() {
		return api.ErrRange
	}
	return api.OK
}

func (s *model) rebases(times, skip uint64) api.Errno {
	if times > mostFixups || len(s.l)+int(times) > mostFixups {
		return api.ErrMany
	}
	for ; times > 0; times-- {
		at := s.place.Uint64()
		if !wantProt(s.m, at) {
			return api.ErrProt
		}
		s.l = append(s.l, api.Fixup{At: at, Kind: 1, Target: wantWord(s.slice, s.m, at)})
		if s.further(8) != api.OK || s.further(skip) != api.OK {
			return api.ErrRange
		}
	}
	return api.OK
}

func (s *model) segment(imm int, offset uint64) api.Errno {
	if imm >= len(s.m.Segments) || s.m.Segments[imm].Prot == 0 && s.m.Segments[imm].FileSize == 0 {
		return api.ErrSegment
	}
	if offset >= s.m.Segments[imm].Size {
		return api.ErrRange
	}
	s.place = new(big.Int).SetUint64(s.m.Segments[imm].Addr + offset)
	return api.OK
}

// do does one opcode, whose numbers are n.
func (s *model) do(upper, imm int, n [2]uint64) api.Errno {
	if upper > 8 || upper >= 3 && s.place == nil || upper >= 5 && s.kind != 1 {
		return api.ErrOpcode
	}
	switch upper {
	case 1:
		s.kind = imm
	case 2:
		return s.segment(imm, n[0])
	case 3:
		return s.further(n[0])
	case 4:
		return s.further(8 * uint64(imm))
	case 5:
		return s.rebases(uint64(imm), 0)
	case 6:
		return s.rebases(n[0], 0)
	case 7:
		return s.rebases(1, n[0])
	case 8:
		return s.rebases(n[0], n[1])
	}
	return api.OK
}

// wantNumbers are how many numbers stand behind an opcode, by its upper four bits.
var wantNumbers = [16]int{2: 1, 3: 1, 6: 1, 7: 1, 8: 2}

func wantDecode(slice []byte, m api.Image, stream []byte) ([]api.Fixup, api.Errno) {
	s := model{slice: slice, m: m, kind: -1}
	for len(stream) > 0 && stream[0] >= 0x10 {
		upper, imm := int(stream[0]/16), int(stream[0]%16)
		stream = stream[1:]
		var n [2]uint64
		for i := range wantNumbers[upper] {
			v, size := binary.Uvarint(stream)
			if size <= 0 {
				return nil, api.ErrShort
			}
			n[i], stream = v, stream[size:]
		}
		if err := s.do(upper, imm, n); err != api.OK {
			return nil, err
		}
	}
	return s.l, api.OK
}

// wantSet are fixups by rising addresses and targets, none twice.
func wantSet(l []api.Fixup) []api.Fixup {
	s := slices.Clone(l)
	slices.SortFunc(s, func(a, b api.Fixup) int { return cmp.Or(cmp.Compare(a.At, b.At), cmp.Compare(a.Target, b.Target)) })
	return slices.Compact(s)
}

func wantMakeError(m api.Image, l []api.Fixup) api.Errno {
	for _, f := range l {
		if f != (api.Fixup{At: f.At, Kind: 1, Target: f.Target}) {
			return api.ErrArg
		}
	}
	s := wantSet(l)
	for i := 1; i < len(s); i++ {
		if s[i].At-s[i-1].At < 8 {
			return api.ErrArg
		}
	}
	if len(s) > mostFixups {
		return api.ErrMany
	}
	for _, f := range s {
		if !wantProt(m, f.At) {
			return api.ErrProt
		}
	}
	return api.OK
}

// wantMake is what Make answers, of an image of at most 16 segments.
func wantMake(m api.Image, l []api.Fixup) ([]byte, api.Errno) {
	if err := wantMakeError(m, l); err != api.OK {
		return nil, err
	}
	s := wantSet(l)
	// How many stand in a row, from each one on.
	row := make([]int, len(s)+1)
	for i := len(s) - 1; i >= 0; i-- {
		row[i] = 1
		if i+1 < len(s) && s[i].At+8 == s[i+1].At && wantSegment(m, s[i].At) == wantSegment(m, s[i+1].At) {
			row[i] += row[i+1]
		}
	}
	b := []byte{0x11}
	for i := 0; i < len(s); i += row[i] {
		in := wantSegment(m, s[i].At)
		if i == 0 || wantSegment(m, s[i-1].At) != in {
			b = binary.AppendUvarint(append(b, byte(0x20+in)), s[i].At-m.Segments[in].Addr)
		} else {
			b = binary.AppendUvarint(append(b, 0x30), s[i].At-s[i-1].At-8)
		}
		if row[i] < 16 {
			b = append(b, byte(0x50+row[i]))
		} else {
			b = binary.AppendUvarint(append(b, 0x60), uint64(row[i]))
		}
	}
	return append(b, 0), api.OK
}

// brief tells bytes, if there are not too many.
func brief(b []byte) string {
	if len(b) > 400 {
		return fmt.Sprintf("%d bytes (% x ..)", len(b), b[:40])
	}
	return fmt.Sprintf("[% x]", b)
}

// briefly tells fixups, if there are not too many.
func briefly(l []api.Fixup) string {
	if len(l) > 20 {
		return fmt.Sprintf("%d fixups (%#x ..)", len(l), l[0].At)
	}
	s := "["
	for _, f := range l {
		s += fmt.Sprintf(" %#x:%#x", f.At, f.Target)
	}
	return s + " ]"
}

// checkDecode holds Decode of any stream against what is wanted; what is handed in is to stay as it is.
func checkDecode(t *testing.T, slice []byte, m api.Image, stream []byte) ([]api.Fixup, api.Errno) {
	t.Helper()
	// Sums, as there are many slices and streams, and copies of all would be slow.
	before, beforeStream := crc32.ChecksumIEEE(slice), crc32.ChecksumIEEE(stream)
	want, wantErr := wantDecode(slice, m, stream)
	got, err := rebase.Decode(slice, m, stream)
	if !slices.Equal(got, want) || err != wantErr {
		t.Fatalf("Decode of %s: %s (%v), want %s (%v)", brief(stream), briefly(got), err, briefly(want), wantErr)
	}
	if err != api.OK && got != nil {
		t.Fatalf("Decode of %s: a list beside %v", brief(stream), err)
	}
	if crc32.ChecksumIEEE(slice) != before || crc32.ChecksumIEEE(stream) != beforeStream {
		t.Fatalf("Decode changed what was handed in: %s is the stream now", brief(stream))
	}
	return got, err
}

// checkMake holds Make of any fixups against what is wanted; what is handed in is to stay as it is.
func checkMake(t *testing.T, m api.Image, l ...api.Fixup) ([]byte, api.Errno) {
	t.Helper()
	before := slices.Clone(l)
	want, wantErr := wantMake(m, l)
	got, err := rebase.Make(m, l...)
	if !bytes.Equal(got, want) || err != wantErr {
		t.Fatalf("Make of %s: %s (%v), want %s (%v)", briefly(l), brief(got), err, brief(want), wantErr)
	}
	if err != api.OK && got != nil {
		t.Fatalf("Make of %s: a stream beside %v", briefly(l), err)
	}
	if !slices.Equal(l, before) {
		t.Fatalf("Make of %s changed what was handed in", briefly(before))
	}
	return got, err
}
