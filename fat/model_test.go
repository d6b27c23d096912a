package fat_test

import (
	"encoding/binary"
	"math/big"
	"slices"
	"testing"

	"clevis/api"
	"clevis/fat"
)

// What the document says of a file, once more, so that the calls can be held against it whatever bytes there are.

// row is an entry of a fat file, as it stands there; rest are the last 4 bytes of a wide one.
type row struct {
	cpu, sub  uint32
	off, size uint64
	align     uint32
	rest      uint32
}

func (r row) slice() api.Slice {
	return api.Slice{Cpu: r.cpu, Sub: r.sub, Span: api.Span{Off: r.off, Size: r.size}, Align: int(r.align)}
}

// behind is where so many entries end.
func behind(wide bool, n int) uint64 {
	if wide {
		return uint64(8 + 32*n)
	}
	return uint64(8 + 20*n)
}

// head is the beginning of a fat file: its magic, how many entries it says that it has, and those.
func head(wide bool, says uint32, l ...row) []byte {
	b := []byte{0xCA, 0xFE, 0xBA, 0xBE}
	if wide {
		b[3] = 0xBF
	}
	b = binary.BigEndian.AppendUint32(b, says)
	for _, r := range l {
		b = binary.BigEndian.AppendUint32(b, r.cpu)
		b = binary.BigEndian.AppendUint32(b, r.sub)
		if wide {
			b = binary.BigEndian.AppendUint64(b, r.off)
			b = binary.BigEndian.AppendUint64(b, r.size)
		} else {
			b = binary.BigEndian.AppendUint32(b, uint32(r.off))
			b = binary.BigEndian.AppendUint32(b, uint32(r.size))
		}
		b = binary.BigEndian.AppendUint32(b, r.align)
		if wide {
			b = binary.BigEndian.AppendUint32(b, r.rest)
		}
	}
	return b
}

// file is a fat file of so many bytes in all, none of which, behind its entries, is 0.
func file(wide bool, size int, l ...row) []byte {
	b := head(wide, uint32(len(l)), l...)
	for len(b) < size {
		b = append(b, byte(1+len(b)%255))
	}
	return b
}

// thin is a thin file, with more bytes behind it.
func thin(cpu, sub uint32, more int) []byte {
	b := []byte{0xCF, 0xFA, 0xED, 0xFE}
	b = binary.LittleEndian.AppendUint32(b, cpu)
	b = binary.LittleEndian.AppendUint32(b, sub)
	return append(b, make([]byte, more)...)
}

func rowsOf(b []byte, wide bool, n int) []row {
	var l []row
	for i := range n {
		e := b[behind(wide, i):]
		r := row{cpu: binary.BigEndian.Uint32(e), sub: binary.BigEndian.Uint32(e[4:])}
		if wide {
			r.off, r.size, r.align = binary.BigEndian.Uint64(e[8:]), binary.BigEndian.Uint64(e[16:]), binary.BigEndian.Uint32(e[24:])
		} else {
			r.off, r.size, r.align = uint64(binary.BigEndian.Uint32(e[8:])), uint64(binary.BigEndian.Uint32(e[12:])), binary.BigEndian.Uint32(e[16:])
		}
		l = append(l, r)
	}
	return l
}

func ends(r row) *big.Int {
	return new(big.Int).Add(new(big.Int).SetUint64(r.off), new(big.Int).SetUint64(r.size))
}

func fits(r row, b []byte, front uint64) bool {
	if ends(r).Cmp(big.NewInt(int64(len(b)))) > 0 || r.off < front || r.align > 15 {
		return false
	}
	for range r.align {
		if r.off%2 != 0 {
			return false
		}
		r.off /= 2
	}
	return true
}

// shares: have two that are within the file a byte in common? Each byte of the one is asked of the other.
func shares(a, b row) bool {
	for i := range a.size {
		if at := a.off + i; at >= b.off && at-b.off < b.size {
			return true
		}
	}
	return false
}

// wantOf are the slices of a file, or the error.
func wantOf(b []byte) ([]api.Slice, api.Errno) {
	switch {
	case len(b) > 1<<20:
		return nil, api.ErrMany
	case len(b) < 4:
		return nil, api.ErrShort
	}
	wide := false
	switch binary.BigEndian.Uint32(b) {
	case 0xCFFAEDFE:
		if len(b) < 12 {
			return nil, api.ErrShort
		}
		return []api.Slice{{Cpu: binary.LittleEndian.Uint32(b[4:]), Sub: binary.LittleEndian.Uint32(b[8:]), Span: api.Span{Size: uint64(len(b))}}}, api.OK
	case 0xCAFEBABE:
	case 0xCAFEBABF:
		wide = true
	default:
		return nil, api.ErrMagic
	}
	if len(b) < 8 {
		return nil, api.ErrShort
	}
	n := binary.BigEndian.Uint32(b[4:])
	if n > 32 {
		return nil, api.ErrMany
	}
	if uint64(len(b)) < behind(wide, int(n)) {
		return nil, api.ErrShort
	}
	return wantOfRows(b, behind(wide, int(n)), rowsOf(b, wide, int(n)))
}

func wantOfRows(b []byte, front uint64, l []row) ([]api.Slice, api.Errno) {
	var told []api.Slice
	for _, r := range l {
		if !fits(r, b, front) {
			return nil, api.ErrRange
		}
		told = append(told, r.slice())
	}
	err := api.OK
	for i, r := range l {
		for _, other := range l[:i] {
			if shares(r, other) {
				return nil, api.ErrRange
			}
			if r.cpu == other.cpu && r.sub<<8 == other.sub<<8 {
				err = api.ErrTwice
			}
		}
	}
	if err != api.OK {
		return nil, err
	}
	return told, api.OK
}

// wantPick is what an architecture takes of some.
func wantPick(l []api.Slice, arch api.Arch) (api.Slice, api.Errno) {
	var subs []uint32
	switch arch {
	case 1:
		subs = []uint32{0}
	case 2:
		subs = []uint32{2, 0}
	default:
		return api.Slice{}, api.ErrArg
	}
	for _, sub := range subs {
		for _, s := range l {
			if s.Cpu == 0x0100000C && s.Sub%(1<<24) == sub {
				return s, api.OK
			}
		}
	}
	return api.Slice{}, api.ErrArch
}

// arches are both architectures, and some that there are not.
func arches() []api.Arch {
	return []api.Arch{api.Arm64, api.Arm64e, 0, 3, -1, 1 << 32, 1<<32 + 1, -1 << 63, 1<<63 - 1}
}

// check holds what is told of a file against what the document says, and asks that the file stays.
func check(t *testing.T, b []byte) {
	t.Helper()
	before := slices.Clone(b)
	want, wantErr := wantOf(b)
	l, err := fat.Slices(b)
	if err != wantErr || !slices.Equal(l, want) {
		t.Fatalf("Slices of % x: %v (%v), want %v (%v)", b[:min(len(b), 80)], l, err, want, wantErr)
	}
	for _, arch := range arches() {
		picked, wantErr := wantPick(want, arch)
		if wantErr != api.ErrArg {
			if _, e := wantOf(b); e != api.OK {
				wantErr = e
			}
		}
		if wantErr != api.OK {
			picked = api.Slice{}
		}
		if s, err := fat.Slice(b, arch); err != wantErr || s != picked.Span {
			t.Fatalf("Slice of % x, arch %d: %v (%v), want %v (%v)", b[:min(len(b), 80)], arch, s, err, picked.Span, wantErr)
		}
	}
	if !slices.Equal(b, before) {
		t.Fatalf("the file is another one now")
	}
}
