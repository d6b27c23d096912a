package fat_test

import (
	"bytes"
	"testing"

	"clevis/api"
	"clevis/fat"
)

// P3.3 (what follows), and P0.3 (within bounds)

// seeds are files of each kind, small ones.
func seeds() [][]byte {
	l := [][]byte{thin(api.Cpu, 0, 0), thin(api.Cpu, 2, 9), head(false, 0), head(true, 0), head(false, 33), head(true, 1)}
	for _, wide := range []bool{false, true} {
		front := behind(wide, 3)
		l = append(l,
			file(wide, int(front)+64, row{cpu: api.Cpu, off: front, size: 9}, row{cpu: api.Cpu, sub: 2, off: front + 9, size: 7}, row{cpu: 7, sub: 3, off: 128, size: 20, align: 5}),
			file(wide, int(front)+40, row{cpu: api.Cpu, sub: 2, off: front + 30, size: 10}, row{cpu: api.Cpu, sub: 0x80000000, off: front, size: 0}, row{cpu: api.Cpu, sub: 1, off: front + 1, size: 29}))
	}
	return l
}

func TestFilesThatAreCutShort(t *testing.T) {
	for _, b := range seeds() {
		for n := range len(b) + 1 {
			check(t, b[:n])
			// What stands behind a part of a file is not its.
			check(t, b[:n:n])
		}
	}
}

func TestFilesWithOneByteChanged(t *testing.T) {
	for _, b := range seeds() {
		for i := range b {
			for v := range 256 {
				changed := bytes.Clone(b)
				changed[i] = byte(v)
				check(t, changed)
			}
		}
	}
}

func TestEachSliceStandsInItsFile(t *testing.T) {
	for _, b := range seeds() {
		for i := range b {
			for _, v := range []byte{0, 1, 40, 127, 128, 255} {
				changed := bytes.Clone(b)
				changed[i] = v
				l, _ := fat.Slices(changed)
				for _, s := range l {
					if s.Span.Off > uint64(len(b)) || s.Span.Size > uint64(len(b))-s.Span.Off {
						t.Fatalf("%v of a file of %d bytes", s, len(b))
					}
				}
			}
		}
	}
}

// TestSlicesOfWhatWasMade: parts of all small sizes and aligns, by twos and threes.
func TestSlicesOfWhatWasMade(t *testing.T) {
	aligns, sizes := []int{0, 1, 3, 6}, []int{0, 1, 2, 5, 8, 33}
	for i := range len(aligns) * len(sizes) {
		for j := range len(aligns) * len(sizes) {
			a := api.Member{Cpu: api.Cpu, Sub: 2, Align: aligns[i%4], Bytes: bytes.Repeat([]byte{1}, sizes[i/4])}
			b := api.Member{Cpu: api.Cpu, Sub: 0, Align: aligns[j%4], Bytes: bytes.Repeat([]byte{2}, sizes[j/4])}
			for _, wide := range []bool{false, true} {
				made(t, wide, a, b)
				check(t, made(t, wide, b, api.Member{Cpu: 7, Bytes: []byte{9}}, a))
			}
		}
	}
}

// TestWhatWasMadeIsTaken: each architecture takes its part's bytes.
func TestWhatWasMadeIsTaken(t *testing.T) {
	for _, wide := range []bool{false, true} {
		b := made(t, wide, api.Member{Cpu: 7, Bytes: []byte("none")}, api.Member{Cpu: api.Cpu, Sub: 2, Align: 7, Bytes: []byte("arm64e")}, api.Member{Cpu: api.Cpu, Align: 3, Bytes: []byte("arm64")})
		for arch, want := range map[api.Arch]string{api.Arm64: "arm64", api.Arm64e: "arm64e"} {
			s, err := fat.Slice(b, arch)
			if err != api.OK || string(b[s.Off:s.Off+s.Size]) != want {
				t.Errorf("arch %d: %v (%v)", arch, s, err)
			}
		}
	}
}

func FuzzSlices(f *testing.F) {
	for _, b := range seeds() {
		f.Add(b)
	}
	f.Fuzz(func(t *testing.T, b []byte) { check(t, b) })
}

func FuzzMake(f *testing.F) {
	f.Add(false, []byte{1, 2, 3, 4, 5, 6, 7, 8})
	f.Add(true, []byte{0, 0, 15, 0, 0, 2, 0, 40, 7, 7, 7, 7})
	f.Fuzz(func(t *testing.T, wide bool, b []byte) {
		var l []api.Member
		var twice bool
		for len(b) >= 4 && len(l) < 32 {
			m := api.Member{Cpu: uint32(b[0] % 4), Sub: uint32(b[1]%4) | uint32(b[1])<<24, Align: int(b[2] % 16), Bytes: bytes.Repeat(b[3:4], int(b[3]))}
			for _, other := range l {
				twice = twice || other.Cpu == m.Cpu && other.Sub<<8 == m.Sub<<8
			}
			l, b = append(l, m), b[4:]
		}
		switch {
		case len(l) == 0:
			unmade(t, "no part", api.ErrArg)
		case len(wantMade(wide, l)) > api.MaxFile:
			unmade(t, "too many bytes", api.ErrMany, l...)
		case twice:
			unmade(t, "two of one architecture", api.ErrTwice, l...)
		default:
			made(t, wide, l...)
		}
	})
}
