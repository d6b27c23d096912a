package rebase_test

import (
	"bytes"
	"encoding/binary"
	"math"
	"slices"
	"strings"
	"testing"

	"clevis/api"
	"clevis/rebase"
)

// P0.3 (within bounds), P0.6 (what it asks of streams)

// checkAny asks all that holds of any stream of any image.
func checkAny(t *testing.T, slice []byte, m api.Image, stream []byte) {
	t.Helper()
	l, err := checkDecode(t, slice, m, stream)
	if err == api.OK {
		stand(t, slice, m, l)
		follow(t, slice, m, l...)
	}
}

// whole is a stream of all opcodes, of fine.
func whole() []byte {
	return with("\x11\x21\x00\x53\x30\x05\x51\x42\x60\x02\x70\x81\x01\x22\xF0\x1F\x80\x01\x04\x24\x80\x80\x04\x80\x02\xFF\x00\x26\xE0\x1F\x54\x00", "\x51")
}

func TestCutShort(t *testing.T) {
	slice, m := fine()
	if l, err := checkDecode(t, slice, m, whole()); len(l) != 14 || err != api.OK {
		t.Fatalf("%s (%v)", briefly(l), err)
	}
	for n := range len(whole()) + 1 {
		for _, begin := range []string{"", "\x11", "\x11\x25\x00", "\x12\x25\x00"} {
			checkAny(t, slice, m, with(begin, string(whole()[:n])))
			checkAny(t, slice, m, with(begin, string(whole()[n:])))
		}
		// What stands behind the stream is not its.
		checkAny(t, slice, m, whole()[:n:len(whole())])
	}
	for n := range len(slice) + 1 {
		if n%64 < 2 || n > 0x1100 && n < 0x1130 {
			checkAny(t, slice[:n], m, whole())
		}
	}
}

func TestOneByteChanged(t *testing.T) {
	slice, m := fine()
	for i := range whole() {
		for v := range 256 {
			wrong := whole()
			wrong[i] = byte(v)
			checkAny(t, slice, m, wrong)
		}
	}
}

func TestOneByteGoneOrMore(t *testing.T) {
	slice, m := fine()
	for i := range whole() {
		checkAny(t, slice, m, slices.Delete(whole(), i, i+1))
		for v := range 256 {
			checkAny(t, slice, m, slices.Insert(whole(), i, byte(v)))
		}
	}
}

// TestAllShortStreams: all streams of at most four of some bytes, and all of three, behind nothing, a type, and a place.
func TestAllShortStreams(t *testing.T) {
	slice, m := fine()
	some := []byte{0x00, 0x01, 0x07, 0x08, 0x10, 0x11, 0x20, 0x21, 0x26, 0x28, 0x30, 0x40, 0x41, 0x50, 0x51, 0x52, 0x60, 0x70, 0x7F, 0x80, 0x90, 0xF8, 0xFF}
	for _, begin := range []string{"", "\x11", "\x11\x26\xF0\x1F"} {
		stream := []byte(begin)
		var longer func()
		longer = func() {
			checkDecode(t, slice[:0x20], m, stream)
			if len(stream) == len(begin)+4 {
				return
			}
			for _, v := range some {
				stream = append(stream, v)
				longer()
				stream = stream[:len(stream)-1]
			}
		}
		longer()
	}
	for first := range 256 {
		for second := range 256 {
			for _, third := range []byte{0x00, 0x01, 0x51, 0x80} {
				checkDecode(t, slice[:0x20], m, []byte{0x11, 0x26, 0x00, byte(first), byte(second), third})
			}
			checkDecode(t, slice[:0x20], m, []byte{byte(first), byte(second)})
		}
	}
}

// TestExtremes: numbers of streams and segments that are as great as can be, or as small.
func TestExtremes(t *testing.T) {
	slice := []byte("abcdefghijklmnopqrstuvwxyz")
	ends := []uint64{0, 1, 7, 8, 9, 20000, 20001, 1 << 31, 1 << 32, 1<<63 - 1, 1 << 63, math.MaxUint64 - 8, math.MaxUint64 - 7, math.MaxUint64 - 1, math.MaxUint64}
	for _, addr := range ends {
		for _, size := range ends {
			m := laid(api.Segment{Addr: addr, Size: size, Off: size, FileSize: addr, Prot: 3}, api.Segment{Addr: size, Size: addr, FileSize: 4, Prot: 6})
			for _, n := range ends {
				place := binary.AppendUvarint([]byte{0x11, 0x20}, n)
				other := binary.AppendUvarint([]byte{0x11, 0x21}, n)
				for _, behind := range []string{"\x51", "\x52", "\x41\x51", "\x30\x08\x51", "\x80\x02\x08"} {
					checkDecode(t, slice, m, with(string(place), behind))
					checkDecode(t, slice, m, with(string(other), behind))
				}
				checkDecode(t, slice, m, binary.AppendUvarint([]byte("\x11\x20\x00\x30"), n))
				checkDecode(t, slice, m, binary.AppendUvarint([]byte("\x11\x20\x00\x70"), n))
				checkDecode(t, slice, m, binary.AppendUvarint([]byte("\x11\x20\x00\x60"), n))
				checkDecode(t, slice, m, binary.AppendUvarint(binary.AppendUvarint([]byte("\x11\x20\x00\x80"), n), addr))
				checkMake(t, m, to(n, addr), to(n+size, addr))
				checkMake(t, m, to(n, addr), to(n+8, addr), to(n+16, addr))
			}
		}
	}
}

// TestNoSegments: nothing of an image is taken as being there.
func TestNoSegments(t *testing.T) {
	for imm := range byte(16) {
		for _, m := range []api.Image{{}, laid(), laid(api.Segment{}), laid(make([]api.Segment, 16)...), laid(api.Segment{Prot: 3})} {
			checkDecode(t, nil, m, []byte{0x11, 0x20 + imm, 0, 0x51})
			checkDecode(t, nil, m, []byte{0x11, 0x51})
			checkMake(t, m, to(uint64(imm), 1))
		}
	}
}

// TestGreatCountsAreNoWork: what a number says is refused ahead of all of its rebases, however often it is asked.
func TestGreatCountsAreNoWork(t *testing.T) {
	const most = "\xFF\xFF\xFF\xFF\xFF\xFF\xFF\xFF\xFF\x01"
	slice := make([]byte, 1<<20)
	m := laid(api.Segment{Size: 1 << 63, FileSize: 1 << 20, Prot: 3})
	for _, stream := range []string{"\x11\x20\x00\x60" + most, "\x11\x20\x00\x80" + most + "\x00", "\x11\x20\x00\x80" + most + most, "\x11\x20\x00\x5F\x60" + most} {
		for range 100000 {
			if l, err := rebase.Decode(slice, m, []byte(stream)); l != nil || err != api.ErrMany {
				t.Fatalf("% x: %s (%v)", stream, briefly(l), err)
			}
		}
	}
}

// TestManyBytes: streams as long as a file, and longer, that have few rebases, or all that there may be.
func TestManyBytes(t *testing.T) {
	slice, m := fine()
	const begin = "\x11\x24\x00"
	for _, part := range []string{"\x50", "\x40", "\x30\x00", "\x60\x00", "\x80\x00\x7F", "\x11", "\x24\x00", "\x80\x00\xFF\xFF\xFF\xFF\xFF\xFF\xFF\xFF\xFF\x01"} {
		decoded(t, "a long stream", begin+strings.Repeat(part, 1<<18)+"\x24\x00\x51", 0x15000)
	}
	for v := range 256 {
		checkDecode(t, slice, m, bytes.Repeat([]byte{byte(v)}, 1<<18))
		checkDecode(t, slice, m, with(begin, strings.Repeat(string([]byte{byte(v)}), 1<<16)))
	}
	refused(t, "one after the other", begin+strings.Repeat("\x51", 1<<20), api.ErrMany)
	decoded(t, "one after the other, as many as can be", begin+strings.Repeat("\x51", 20000)+strings.Repeat("\x50", 1<<20), row(0x15000, 20000, 8)...)
	refused(t, "the same one", "\x11"+strings.Repeat("\x24\x00\x51", 1<<20), api.ErrMany)
	decoded(t, "behind the end", begin+"\x51\x00"+strings.Repeat("\xFF", 1<<22), 0x15000)
	// What is handed to Make is more than a stream has.
	unmade(t, "many", api.ErrMany, places(row(0x15000, 1<<18, 8)...)...)
	unmade(t, "many that meet", api.ErrArg, places(row(0x15000, 1<<18, 1)...)...)
	made(t, "one, many times", "\x11\x24\x00\x51\x00", slices.Repeat(places(0x15000), 1<<18)...)
}

func FuzzDecode(f *testing.F) {
	f.Add(whole(), []byte("abcdefghijklmnop"), uint64(0x1000), uint64(0x1000), uint64(4))
	f.Add([]byte("\x11\x21\x00\x52\x00"), []byte{}, uint64(0), uint64(4096), uint64(0))
	f.Add([]byte("\x11\x20\x00\x54"), []byte("abc"), uint64(math.MaxUint64-31), uint64(32), uint64(3))
	f.Fuzz(func(t *testing.T, stream, slice []byte, addr, size, file uint64) {
		checkDecode(t, slice, laid(api.Segment{Addr: addr, Size: size, FileSize: file, Prot: 3}, api.Segment{Addr: size, Size: addr, Off: file, FileSize: addr, Prot: int(file % 8)}), stream)
		whole, m := fine()
		checkAny(t, whole, m, stream)
	})
}

func FuzzMake(f *testing.F) {
	f.Add([]byte{8, 8, 8, 9, 16, 255, 8}, uint64(0x12000), uint64(7))
	f.Add([]byte{8, 8}, uint64(0x12FF0), uint64(1<<63))
	f.Add([]byte{7}, uint64(math.MaxUint64-8), uint64(0))
	f.Fuzz(func(t *testing.T, steps []byte, at, target uint64) {
		l := []api.Fixup{to(at, target)}
		for i, step := range steps {
			at += uint64(step)
			l = append(l, to(at, target<<(i%64)))
		}
		slice, m := fine()
		follow(t, slice, m, l...)
		follow(t, slice, sixteen(0), l...)
	})
}
