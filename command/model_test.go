package command_test

import (
	"bytes"
	"encoding/binary"
	"slices"
	"testing"

	"clevis/api"
	"clevis/command"
)

// What the document says of a header and of commands, once more, so that the calls can be held against it whatever bytes there are.

// says is a header, as it stands there.
type says struct {
	magic, cpu, sub, kind, count, size, flags, rest uint32
}

// fine is a header of so many commands, that have so many bytes, which nothing is wrong with.
func fine(count, size int) says {
	return says{magic: 0xFEEDFACF, cpu: 0x0100000C, kind: 2, count: uint32(count), size: uint32(size)}
}

// bytes is a header's bytes, and others behind it.
func (s says) bytes(behind ...byte) []byte {
	var b []byte
	for _, n := range []uint32{s.magic, s.cpu, s.sub, s.kind, s.count, s.size, s.flags, s.rest} {
		b = binary.LittleEndian.AppendUint32(b, n)
	}
	return append(b, behind...)
}

// raw is a command that says that it has so many bytes, with others behind its two numbers.
func raw(cmd, size uint32, rest ...byte) []byte {
	b := binary.LittleEndian.AppendUint32(nil, cmd)
	return append(binary.LittleEndian.AppendUint32(b, size), rest...)
}

// full is a command of so many bytes, none of which, behind its two numbers, is 0.
func full(cmd uint32, size int) []byte {
	b := raw(cmd, uint32(size))
	for len(b) < size {
		b = append(b, byte(1+(int(cmd)+len(b))%255))
	}
	return b
}

// whole is a header, and commands, which it says just as they are.
func whole(l ...[]byte) []byte {
	all := bytes.Join(l, nil)
	return fine(len(l), len(all)).bytes(all...)
}

// wantFront is the error that a header comes to; else the head, how many commands there are, and the bytes that they have.
func wantFront(b []byte) (api.Head, int, []byte, api.Errno) {
	if len(b) < 32 {
		return api.Head{}, 0, nil, api.ErrShort
	}
	at := func(i int) uint32 { return binary.LittleEndian.Uint32(b[i:]) }
	sub := at(8) << 8 >> 8
	switch {
	case at(0) != 0xFEEDFACF:
		return api.Head{}, 0, nil, api.ErrMagic
	case at(4) != 0x0100000C || sub != 0 && sub != 2:
		return api.Head{}, 0, nil, api.ErrArch
	case at(12) != 2 && at(12) != 6:
		return api.Head{}, 0, nil, api.ErrCommand
	case at(16) > 256:
		return api.Head{}, 0, nil, api.ErrMany
	case uint64(at(20)) > uint64(len(b)-32):
		return api.Head{}, 0, nil, api.ErrShort
	}
	h := api.Head{Sub: int(sub), Kind: api.ImageKind(at(12)), Flags: at(24)}
	return h, int(at(16)), b[32 : 32+at(20)], api.OK
}

// wantOf is the error; else the head, the commands, and Size.
func wantOf(b []byte) (api.Head, []api.Command, uint64, api.Errno) {
	h, count, rest, err := wantFront(b)
	if err != api.OK {
		return api.Head{}, nil, 0, err
	}
	size := uint64(32 + len(rest))
	var l []api.Command
	for range count {
		if len(rest) < 8 {
			return api.Head{}, nil, 0, api.ErrCommand
		}
		n := binary.LittleEndian.Uint32(rest[4:])
		if n < 8 || n%8 != 0 || uint64(n) > uint64(len(rest)) {
			return api.Head{}, nil, 0, api.ErrCommand
		}
		l = append(l, api.Command{Cmd: binary.LittleEndian.Uint32(rest), Bytes: rest[:n]})
		rest = rest[n:]
	}
	return h, l, size, api.OK
}

func wantMay(c api.Command) bool {
	return len(c.Bytes) >= 8 && len(c.Bytes)%8 == 0 && bytes.Equal(c.Bytes[:8], raw(c.Cmd, uint32(len(c.Bytes))))
}

func sameCommand(a, b api.Command) bool {
	return a.Cmd == b.Cmd && bytes.Equal(a.Bytes, b.Bytes)
}

// check holds Read and Size of any bytes, which are to stay as they are, against what is wanted.
func check(t *testing.T, b []byte) {
	t.Helper()
	before := bytes.Clone(b)
	wantHead, wantList, wantSize, wantErr := wantOf(before)
	h, l, err := command.Read(b)
	if h != wantHead || !slices.EqualFunc(l, wantList, sameCommand) || err != wantErr {
		t.Fatalf("Read of % x: %v, %v (%v), want %v, %v (%v)", before, h, l, err, wantHead, wantList, wantErr)
	}
	if err != api.OK && l != nil {
		t.Fatalf("Read of % x: a list beside %v", before, err)
	}
	if n, err := command.Size(b); n != wantSize || err != wantErr {
		t.Fatalf("Size of % x: %d (%v), want %d (%v)", before, n, err, wantSize, wantErr)
	}
	if !bytes.Equal(b, before) {
		t.Fatalf("what was handed in was changed: % x, it was % x", b, before)
	}
	stand(t, b, l)
}

// stand asks that each command may be, and stands in the bytes, one behind the other (P4.3).
func stand(t *testing.T, b []byte, l []api.Command) {
	t.Helper()
	at := 32
	for i, c := range l {
		if !command.May(c) {
			t.Fatalf("command %d of % x is told, and may not be", i, b)
		}
		if at+len(c.Bytes) > len(b) || !bytes.Equal(c.Bytes, b[at:at+len(c.Bytes)]) {
			t.Fatalf("command %d of % x does not stand at %d", i, b, at)
		}
		at += len(c.Bytes)
	}
}

// refused asks that Read and Size answer that, and nothing beside it.
func refused(t *testing.T, what string, b []byte, want api.Errno) {
	t.Helper()
	if h, l, err := command.Read(b); h != (api.Head{}) || l != nil || err != want {
		t.Errorf("%s: Read is %v, %v (%v), want %v", what, h, l, err, want)
	}
	if n, err := command.Size(b); n != 0 || err != want {
		t.Errorf("%s: Size is %d (%v), want %v", what, n, err, want)
	}
	check(t, b)
}

// told asks that Read and Size answer that.
func told(t *testing.T, what string, b []byte, want api.Head, size uint64, list ...[]byte) {
	t.Helper()
	h, l, err := command.Read(b)
	if h != want || len(l) != len(list) || err != api.OK {
		t.Fatalf("%s: Read is %v, %d commands (%v), want %v, %d", what, h, len(l), err, want, len(list))
	}
	for i, c := range l {
		if !bytes.Equal(c.Bytes, list[i]) || c.Cmd != binary.LittleEndian.Uint32(list[i]) {
			t.Errorf("%s: command %d is %v, want % x", what, i, c, list[i])
		}
	}
	if n, err := command.Size(b); n != size || err != api.OK {
		t.Errorf("%s: Size is %d (%v), want %d", what, n, err, size)
	}
	check(t, b)
}
