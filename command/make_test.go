package command_test

import (
	"bytes"
	"math"
	"slices"
	"testing"

	"clevis/api"
	"clevis/command"
)

// P4.2 (May, One, Make)

func TestMay(t *testing.T) {
	for _, x := range []struct {
		what string
		c    api.Command
		want bool
	}{
		{"two numbers alone", api.Command{Cmd: 1, Bytes: raw(1, 8)}, true},
		{"the cmd 0", api.Command{Cmd: 0, Bytes: raw(0, 8)}, true},
		{"the greatest cmd", api.Command{Cmd: math.MaxUint32, Bytes: full(math.MaxUint32, 64)}, true},
		{"each byte of the cmd", api.Command{Cmd: 0x04030201, Bytes: []byte{1, 2, 3, 4, 8, 0, 0, 0}}, true},
		{"each byte of the size", api.Command{Cmd: 1, Bytes: full(1, 0x030208)}, true},
		{"more than a file has", api.Command{Cmd: 1, Bytes: full(1, api.MaxFile+8)}, true},
		{"nothing", api.Command{}, false},
		{"no bytes", api.Command{Bytes: []byte{}}, false},
		{"noughts", api.Command{Bytes: make([]byte, 8)}, false},
		{"fewer than 8 bytes, as it says", api.Command{Cmd: 1, Bytes: raw(1, 7)[:7]}, false},
		{"fewer than 8 bytes", api.Command{Cmd: 1, Bytes: raw(1, 8)[:7]}, false},
		{"four bytes", api.Command{Cmd: 1, Bytes: raw(1, 8)[:4]}, false},
		{"no multiple of 8, as it says", api.Command{Cmd: 1, Bytes: full(1, 12)}, false},
		{"no multiple of 8, as it says", api.Command{Cmd: 1, Bytes: full(1, 9)}, false},
		{"no multiple of 8", api.Command{Cmd: 1, Bytes: append(full(1, 16), 0)}, false},
		{"more than it says", api.Command{Cmd: 1, Bytes: append(full(1, 16), full(1, 8)...)}, false},
		{"fewer than it says", api.Command{Cmd: 1, Bytes: full(1, 24)[:16]}, false},
		{"by 2^16 fewer than it says", api.Command{Cmd: 1, Bytes: raw(1, 0x010008)}, false},
		{"by 2^31 fewer than it says", api.Command{Cmd: 1, Bytes: raw(1, 0x80000008)}, false},
		{"another cmd", api.Command{Cmd: 2, Bytes: raw(1, 8)}, false},
		{"another highest bit", api.Command{Cmd: 0x80000022, Bytes: raw(0x22, 8)}, false},
		{"the cmd the other way round", api.Command{Cmd: 1, Bytes: []byte{0, 0, 0, 1, 8, 0, 0, 0}}, false},
		{"the size the other way round", api.Command{Cmd: 1, Bytes: []byte{1, 0, 0, 0, 0, 0, 0, 8}}, false},
	} {
		before := bytes.Clone(x.c.Bytes)
		if command.May(x.c) != x.want || wantMay(x.c) != x.want {
			t.Errorf("%s: may it be? %v", x.what, !x.want)
		}
		if !bytes.Equal(x.c.Bytes, before) {
			t.Errorf("%s: what was handed in was changed", x.what)
		}
	}
}

func TestMayWithOneByteChanged(t *testing.T) {
	for _, size := range []int{8, 16, 264} {
		for i := range size {
			for v := range 256 {
				c := api.Command{Cmd: 0x80000022, Bytes: full(0x80000022, size)}
				c.Bytes[i] = byte(v)
				if want := wantMay(c); command.May(c) != want {
					t.Fatalf("byte %d of %d is %d: may it be? %v", i, size, v, !want)
				}
			}
		}
	}
}

// one makes a command, and holds it against what is wanted.
func one(t *testing.T, cmd uint32, says []byte) api.Command {
	t.Helper()
	want := raw(cmd, 0, says...)
	for len(want)%8 != 0 {
		want = append(want, 0)
	}
	copy(want, raw(cmd, uint32(len(want))))
	before := bytes.Clone(says)
	c, err := command.One(cmd, says)
	if c.Cmd != cmd || !bytes.Equal(c.Bytes, want) || err != api.OK {
		t.Fatalf("One(%d, %d bytes): %d, %d bytes (%v), want %d", cmd, len(says), c.Cmd, len(c.Bytes), err, len(want))
	}
	if !bytes.Equal(says, before) {
		t.Fatalf("what was handed in was changed")
	}
	if !command.May(c) {
		t.Fatalf("One(%d, %d bytes) may not be", cmd, len(says))
	}
	return c
}

func TestOneByItsBytes(t *testing.T) {
	c, err := command.One(27, []byte{1, 2, 3})
	if want := []byte{27, 0, 0, 0, 16, 0, 0, 0, 1, 2, 3, 0, 0, 0, 0, 0}; c.Cmd != 27 || !bytes.Equal(c.Bytes, want) || err != api.OK {
		t.Errorf("%v (%v)", c, err)
	}
	c, err = command.One(0x84030201, []byte("abcdefgh"))
	if want := []byte("\x01\x02\x03\x84\x10\x00\x00\x00abcdefgh"); c.Cmd != 0x84030201 || !bytes.Equal(c.Bytes, want) || err != api.OK {
		t.Errorf("%v (%v)", c, err)
	}
}

func TestOneOfEachSize(t *testing.T) {
	for _, cmd := range []uint32{0, 1, 0x19, 0x80000034, math.MaxUint32} {
		one(t, cmd, nil)
		for n := range 300 {
			one(t, cmd, full(cmd, 400)[8:8+n])
			one(t, cmd, make([]byte, n))
		}
	}
}

func TestOneOfTooManyBytes(t *testing.T) {
	says := bytes.Repeat([]byte{7}, 1<<26)
	for n := api.MaxFile - 40; n <= api.MaxFile-8; n++ {
		if c := one(t, 5, says[:n]); len(c.Bytes) > api.MaxFile {
			t.Errorf("%d bytes", len(c.Bytes))
		}
	}
	for _, n := range []int{api.MaxFile - 7, api.MaxFile - 6, api.MaxFile - 1, api.MaxFile, api.MaxFile + 1, 1 << 26} {
		if c, err := command.One(5, says[:n]); c.Cmd != 0 || c.Bytes != nil || err != api.ErrMany {
			t.Errorf("One of %d bytes: %d, %d bytes (%v)", n, c.Cmd, len(c.Bytes), err)
		}
	}
}

func TestOneIsNewMemory(t *testing.T) {
	for _, n := range []int{3, 8} {
		says := bytes.Repeat([]byte{7}, n)
		c, _ := command.One(5, says)
		clear(says)
		if !bytes.Equal(c.Bytes[8:8+n], bytes.Repeat([]byte{7}, n)) {
			t.Errorf("the command changes with what it says: %v", c)
		}
		copy(c.Bytes[8:], "abc")
		if !bytes.Equal(says, make([]byte, n)) {
			t.Errorf("what it says changes with the command: %v", says)
		}
	}
}

// wantMade is what a head and commands become, where none is refused.
func wantMade(h api.Head, l []api.Command) []byte {
	var all []byte
	for _, c := range l {
		all = append(all, c.Bytes...)
	}
	s := fine(len(l), len(all))
	s.sub, s.kind, s.flags = uint32(h.Sub), uint32(h.Kind), h.Flags
	return s.bytes(all...)
}

// made makes bytes of a head and of commands, which are to stay as they are, holds them against what is wanted, and reads them (P4.3).
func made(t *testing.T, h api.Head, l ...api.Command) []byte {
	t.Helper()
	want := wantMade(h, l)
	b, err := command.Make(h, l...)
	if !bytes.Equal(b, want) || err != api.OK {
		t.Fatalf("Make(%v, %d commands): % x (%v), want % x", h, len(l), b, err, want)
	}
	if !bytes.Equal(wantMade(h, l), want) {
		t.Fatalf("the commands are other ones now")
	}
	back, list, err := command.Read(b)
	if back != h || !slices.EqualFunc(list, l, sameCommand) || err != api.OK {
		t.Fatalf("Make(%v, %v) is read as %v, %v (%v)", h, l, back, list, err)
	}
	if n, err := command.Size(b); n != uint64(len(b)) || err != api.OK {
		t.Fatalf("Size of %d bytes that were made: %d (%v)", len(b), n, err)
	}
	check(t, append(b, 1, 2, 3))
	return b
}

func unmade(t *testing.T, what string, want api.Errno, h api.Head, l ...api.Command) {
	t.Helper()
	if b, err := command.Make(h, l...); b != nil || err != want {
		t.Errorf("%s: %d bytes (%v), want %v", what, len(b), err, want)
	}
}

// some are n commands of several sizes.
func some(n int) []api.Command {
	var l []api.Command
	for i := range n {
		l = append(l, api.Command{Cmd: uint32(i) << 24, Bytes: full(uint32(i)<<24, 8+i%5*8)})
	}
	return l
}

func TestMakeByItsBytes(t *testing.T) {
	b := made(t, api.Head{Sub: 2, Kind: api.Dylib, Flags: 0x40218085}, api.Command{Cmd: 0x80000022, Bytes: raw(0x80000022, 16, 1, 2, 3, 4, 5, 6, 7, 8)}, api.Command{Cmd: 2, Bytes: raw(2, 8)})
	if want := []byte{
		0xCF, 0xFA, 0xED, 0xFE, 0x0C, 0, 0, 1, 2, 0, 0, 0, 6, 0, 0, 0,
		2, 0, 0, 0, 24, 0, 0, 0, 0x85, 0x80, 0x21, 0x40, 0, 0, 0, 0,
		0x22, 0, 0, 0x80, 16, 0, 0, 0, 1, 2, 3, 4, 5, 6, 7, 8,
		2, 0, 0, 0, 8, 0, 0, 0,
	}; !bytes.Equal(b, want) {
		t.Errorf("% x, want % x", b, want)
	}
}

func TestMakeOfEachHead(t *testing.T) {
	for _, sub := range []int{0, 2} {
		for _, kind := range []api.ImageKind{api.Exec, api.Dylib} {
			for _, flags := range []uint32{0, 1, 0x85, 0x01020304, math.MaxUint32} {
				h := api.Head{Sub: sub, Kind: kind, Flags: flags}
				if b := made(t, h); len(b) != 32 {
					t.Errorf("no commands: %d bytes", len(b))
				}
				made(t, h, some(7)...)
			}
		}
	}
}

func TestMakeOfWrongHeads(t *testing.T) {
	for _, sub := range []int{-1, -2, 1, 3, 4, 0x01000000, 0x01000002, math.MinInt32, math.MinInt, math.MinInt + 2, math.MaxInt32, math.MaxInt, 1 << 32, 1<<32 + 2} {
		unmade(t, "another subtype", api.ErrArg, api.Head{Sub: sub, Kind: api.Exec})
		unmade(t, "another subtype", api.ErrArg, api.Head{Sub: sub, Kind: api.Dylib}, some(2)...)
	}
	for _, kind := range []api.ImageKind{-6, -2, -1, 0, 1, 3, 4, 5, 7, 8, math.MinInt, math.MaxInt, 1<<32 + 2, 1<<32 + 6} {
		unmade(t, "another filetype", api.ErrArg, api.Head{Kind: kind})
		unmade(t, "another filetype", api.ErrArg, api.Head{Sub: 2, Kind: kind}, some(2)...)
	}
}

func TestMakeOfCommandsThatMayNotBe(t *testing.T) {
	good := some(3)
	for _, bad := range []api.Command{{}, {Cmd: 1, Bytes: raw(1, 7)[:7]}, {Cmd: 1, Bytes: full(1, 12)}, {Cmd: 1, Bytes: raw(1, 16)}, {Cmd: 2, Bytes: raw(1, 8)}, {Cmd: 1, Bytes: append(raw(1, 8), raw(1, 8)...)}} {
		for i := range len(good) + 1 {
			unmade(t, "one that may not be", api.ErrArg, execHead, slices.Insert(slices.Clone(good), i, bad)...)
		}
		unmade(t, "one that may not be, of too many", api.ErrArg, execHead, append(some(256), bad)...)
		unmade(t, "one that may not be, and too many bytes", api.ErrArg, execHead, api.Command{Cmd: 1, Bytes: full(1, api.MaxFile)}, bad)
	}
	unmade(t, "another subtype, and too many", api.ErrArg, api.Head{Sub: 1, Kind: api.Exec}, some(257)...)
	unmade(t, "another filetype, and too many", api.ErrArg, api.Head{Kind: 3}, some(257)...)
}

func TestMakeOfTooMany(t *testing.T) {
	made(t, execHead, some(256)...)
	unmade(t, "257 commands", api.ErrMany, execHead, some(257)...)
	unmade(t, "2000 commands", api.ErrMany, execHead, some(2000)...)
}

func TestMakeOfTooManyBytes(t *testing.T) {
	room := api.MaxFile - 32
	great := api.Command{Cmd: 1, Bytes: full(1, room)}
	if b := made(t, execHead, great); len(b) != api.MaxFile {
		t.Errorf("%d bytes", len(b))
	}
	less := api.Command{Cmd: 1, Bytes: full(1, room-16)}
	small := api.Command{Cmd: 2, Bytes: full(2, 8)}
	made(t, execHead, less, small, small)
	unmade(t, "8 bytes too many", api.ErrMany, execHead, small, less, small, small)
	unmade(t, "8 bytes too many", api.ErrMany, execHead, api.Command{Cmd: 1, Bytes: full(1, room+8)})
	unmade(t, "a header too many", api.ErrMany, execHead, api.Command{Cmd: 1, Bytes: full(1, api.MaxFile)})
	unmade(t, "two great ones", api.ErrMany, execHead, great, great)
	unmade(t, "256 great ones", api.ErrMany, execHead, slices.Repeat([]api.Command{{Cmd: 1, Bytes: full(1, 1<<25)}}, 256)...)
}

func TestWhatIsMadeIsNewMemory(t *testing.T) {
	l := some(4)
	b, _ := command.Make(execHead, l...)
	want := bytes.Clone(b)
	for _, c := range l {
		clear(c.Bytes)
	}
	if !bytes.Equal(b, want) {
		t.Errorf("what was made changes with a command")
	}
	l = some(4)
	b, _ = command.Make(execHead, l...)
	clear(b)
	if !slices.EqualFunc(l, some(4), sameCommand) {
		t.Errorf("a command changes with what was made")
	}
	if again, _ := command.Make(execHead, l...); !bytes.Equal(again, want) {
		t.Errorf("what is made then is another one")
	}
}
