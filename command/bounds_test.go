package command_test

import (
	"bytes"
	"encoding/binary"
	"testing"

	"clevis/api"
	"clevis/command"
)

// P4.3 (what follows), and P0.3 (within bounds)

// seeds are headers and commands of each kind, small ones.
func seeds() [][]byte {
	lib := fine(2, 31)
	lib.sub, lib.kind, lib.flags, lib.rest = 0x80000002, 6, 0x85, 0xFFFFFFFF
	l := append(full(0x80000022, 16), full(2, 8)...)
	return [][]byte{
		fine(0, 0).bytes(),
		fine(0, 5).bytes(1, 2, 3, 4, 5, 6),
		whole(full(1, 8)),
		whole(full(0x19, 24), full(0x0D, 8), full(0, 32)),
		lib.bytes(append(l, 8, 0, 0, 0, 8, 0, 0, 0)...),
		fine(3, 24).bytes(append(l, raw(8, 8)...)...),
		fine(256, 16).bytes(l...),
		fine(257, 24).bytes(l...),
	}
}

func TestBytesThatAreCutShort(t *testing.T) {
	for _, b := range seeds() {
		for n := range len(b) + 1 {
			check(t, b[:n])
			// What stands behind a part of the bytes is not theirs.
			check(t, b[:n:n])
		}
	}
}

func TestBytesWithOneChanged(t *testing.T) {
	for _, b := range seeds() {
		for i := range b {
			for v := range 256 {
				changed := bytes.Clone(b)
				changed[i] = byte(v)
				check(t, changed)
			}
		}
	}
}

// TestEachCountAndSize: commands of 8, 16 and 24 bytes, of which so many are said to be, of so many bytes.
func TestEachCountAndSize(t *testing.T) {
	l := append(append(full(1, 8), full(2, 16)...), full(3, 24)...)
	for count := range 6 {
		for size := range len(l) + 2 {
			check(t, fine(count, size).bytes(l...))
		}
	}
}

// TestEachSizeOfACommand: the first of two says each number of bytes.
func TestEachSizeOfACommand(t *testing.T) {
	for says := range uint32(80) {
		for have := range 9 {
			first := append(raw(1, says), make([]byte, have*8)...)
			check(t, fine(2, len(first)+16).bytes(append(first, full(2, 16)...)...))
		}
	}
}

func TestWhatWasMadeIsReadAsItWas(t *testing.T) {
	for a := range 20 {
		for b := range 20 {
			x, _ := command.One(uint32(a), full(uint32(a), 8+a)[8:])
			y, _ := command.One(uint32(b)|0x80000000, full(uint32(b), 8+b)[8:])
			made(t, api.Head{Sub: a % 2 * 2, Kind: api.Dylib, Flags: uint32(b)}, x, y, x)
		}
	}
}

func TestWhatWasReadIsMadeAsItWas(t *testing.T) {
	for _, b := range seeds() {
		h, l, err := command.Read(b)
		if err != api.OK {
			continue
		}
		again, err := command.Make(h, l...)
		if err != api.OK {
			t.Fatalf("% x is not made again: %v", b, err)
		}
		made(t, h, l...)
		if !bytes.Equal(again[32:], b[32:len(again)]) {
			t.Errorf("% x is made as % x", b, again)
		}
	}
}

func FuzzRead(f *testing.F) {
	for _, b := range seeds() {
		f.Add(b)
	}
	f.Fuzz(func(t *testing.T, b []byte) { check(t, b) })
}

func FuzzMay(f *testing.F) {
	f.Add(uint32(1), raw(1, 8))
	f.Add(uint32(0), []byte{})
	f.Fuzz(func(t *testing.T, cmd uint32, b []byte) {
		c := api.Command{Cmd: cmd, Bytes: b}
		if want := wantMay(c); command.May(c) != want {
			t.Errorf("%d, % x: may it be? %v", cmd, b, !want)
		}
		one(t, cmd, b)
	})
}

func FuzzMake(f *testing.F) {
	f.Add(0, 2, uint32(0x85), []byte{1, 2, 3, 4, 5, 6, 7, 8, 9})
	f.Add(2, 6, uint32(0), []byte{})
	f.Fuzz(func(t *testing.T, sub, kind int, flags uint32, b []byte) {
		h := api.Head{Sub: sub, Kind: api.ImageKind(kind), Flags: flags}
		var l []api.Command
		for len(b) >= 5 && len(l) < 250 {
			n := min(int(b[4]), len(b)-5)
			l = append(l, one(t, binary.LittleEndian.Uint32(b), b[5:5+n]))
			b = b[5+n:]
		}
		if sub != 0 && sub != 2 || kind != 2 && kind != 6 {
			unmade(t, "another head", api.ErrArg, h, l...)
			return
		}
		made(t, h, l...)
	})
}
