package command_test

import (
	"bytes"
	"math"
	"testing"

	"clevis/api"
	"clevis/command"
)

// P4.1 (Read, Size)

var execHead = api.Head{Kind: api.Exec}

func TestReadByItsBytes(t *testing.T) {
	b := []byte{
		0xCF, 0xFA, 0xED, 0xFE, 0x0C, 0, 0, 1, 2, 0, 0, 0x80, 6, 0, 0, 0,
		2, 0, 0, 0, 32, 0, 0, 0, 0x85, 0x80, 0x21, 0x40, 0xF1, 0xF2, 0xF3, 0xF4,
		0x22, 0, 0, 0x80, 16, 0, 0, 0, 1, 2, 3, 4, 5, 6, 7, 8,
		0x19, 0x2A, 0x3B, 0x4C, 16, 0, 0, 0, 9, 0, 0, 0, 0, 0, 0, 10,
		99, 99,
	}
	h, l, err := command.Read(b)
	if h != (api.Head{Sub: 2, Kind: api.Dylib, Flags: 0x40218085}) || len(l) != 2 || err != api.OK {
		t.Fatalf("%v, %v (%v)", h, l, err)
	}
	if l[0].Cmd != 0x80000022 || !bytes.Equal(l[0].Bytes, b[32:48]) || l[1].Cmd != 0x4C3B2A19 || !bytes.Equal(l[1].Bytes, b[48:64]) {
		t.Errorf("%v", l)
	}
	if n, err := command.Size(b); n != 64 || err != api.OK {
		t.Errorf("Size: %d (%v)", n, err)
	}
	check(t, b)
}

func TestEachHeadThatMayBe(t *testing.T) {
	for _, high := range []uint32{0, 1, 0x7F, 0x80, 0xFF} {
		for _, sub := range []int{0, 2} {
			for _, kind := range []api.ImageKind{api.Exec, api.Dylib} {
				for _, flags := range []uint32{0, 1, 0x85, 0x01020304, math.MaxUint32} {
					s := fine(1, 8)
					s.sub, s.kind, s.flags, s.rest = high<<24|uint32(sub), uint32(kind), flags, flags
					told(t, "a head", s.bytes(raw(5, 8)...), api.Head{Sub: sub, Kind: kind, Flags: flags}, 40, raw(5, 8))
				}
			}
		}
	}
}

func TestNoCommands(t *testing.T) {
	told(t, "a header alone", fine(0, 0).bytes(), execHead, 32)
	told(t, "bytes behind it", fine(0, 0).bytes(1, 2, 3), execHead, 32)
	told(t, "bytes of no command", fine(0, 3).bytes(1, 2, 3), execHead, 35)
	told(t, "bytes of no command, that none could be", fine(0, 8).bytes(raw(1, 7)...), execHead, 40)
}

func TestCommandsOneBehindTheOther(t *testing.T) {
	l := [][]byte{full(3, 8), full(0, 40), full(math.MaxUint32, 16), full(3, 8), full(0x80000028, 4096)}
	told(t, "five", whole(l...), execHead, 32+8+40+16+8+4096, l...)
	told(t, "five, and bytes behind them", append(whole(l...), full(7, 8)...), execHead, 32+8+40+16+8+4096, l...)
}

func TestWhatIsLeftIsNotLookedAt(t *testing.T) {
	one := full(9, 16)
	for n := range 40 {
		rest := bytes.Repeat([]byte{0xFF}, n)
		b := fine(1, 16+n).bytes(append(one, rest...)...)
		told(t, "one, and what is left", b, execHead, uint64(48+n), one)
	}
}

func TestFewBytes(t *testing.T) {
	for n := range 32 {
		refused(t, "a header that is cut short", fine(0, 0).bytes()[:n], api.ErrShort)
		refused(t, "noughts", make([]byte, n), api.ErrShort)
	}
	refused(t, "nil", nil, api.ErrShort)
}

func TestMagic(t *testing.T) {
	for _, magic := range []uint32{0, 0xFEEDFACE, 0xCFFAEDFE, 0xCAFEBABE, 0xFEEDFAD0, 0xFFEDFACF, math.MaxUint32} {
		s := fine(0, 0)
		s.magic = magic
		refused(t, "another magic", s.bytes(), api.ErrMagic)
	}
}

func TestArch(t *testing.T) {
	for _, cpu := range []uint32{0, 0x0C, 0x01000007, 0x0200000C, 0x0100000D, 0x8100000C, 0x0C000001} {
		s := fine(0, 0)
		s.cpu = cpu
		refused(t, "another cputype", s.bytes(), api.ErrArch)
	}
	for _, sub := range []uint32{1, 3, 4, 0x0102, 0x010000, 0x020000, 0x800000, 0x80000001, 0x80800002, math.MaxUint32} {
		s := fine(0, 0)
		s.sub = sub
		refused(t, "another subtype", s.bytes(), api.ErrArch)
	}
}

func TestFiletype(t *testing.T) {
	for _, kind := range []uint32{0, 1, 3, 4, 5, 7, 8, 0x0102, 0x0206, 0x01000002, 0x80000006, 0x02000000, math.MaxUint32} {
		s := fine(0, 0)
		s.kind = kind
		refused(t, "another filetype", s.bytes(), api.ErrCommand)
	}
}

func TestTooManyCommands(t *testing.T) {
	var l [][]byte
	for i := range 257 {
		l = append(l, full(uint32(i), 8+i%3*8))
	}
	told(t, "256", whole(l[:256]...), execHead, uint64(len(whole(l[:256]...))), l[:256]...)
	refused(t, "257", whole(l...), api.ErrMany)
	for _, n := range []uint32{257, 258, 512, 0x0100FFFF, 0x80000000, math.MaxUint32} {
		s := fine(0, 0)
		s.count = n
		refused(t, "more than 256", s.bytes(), api.ErrMany)
	}
}

func TestFewerBytesThanTheCommandsHave(t *testing.T) {
	b := whole(full(1, 16), full(2, 24))
	for n := 32; n < len(b); n++ {
		refused(t, "commands that are cut short", b[:n], api.ErrShort)
	}
	for _, size := range []uint32{41, 48, 256, 0x80000000, math.MaxUint32 - 31, math.MaxUint32} {
		s := fine(2, 0)
		s.size = size
		refused(t, "more bytes than there are", s.bytes(b[32:]...), api.ErrShort)
		s.count = 0
		refused(t, "more bytes than there are, no commands", s.bytes(b[32:]...), api.ErrShort)
	}
}

func TestCommandsThatMayNotBe(t *testing.T) {
	long := bytes.Repeat([]byte{8, 0, 0, 0}, 20)
	for _, size := range []uint32{0, 1, 4, 7, 9, 12, 15, 17, 20, 88, 96, 0x08000000, 0x80000000, 0x80000008, 0xFFFFFFF8, math.MaxUint32} {
		wrong := raw(1, size, long[:72]...)
		refused(t, "alone", fine(1, len(wrong)).bytes(wrong...), api.ErrCommand)
		behind := append(full(7, 16), wrong...)
		refused(t, "behind another one", fine(2, len(behind)).bytes(behind...), api.ErrCommand)
	}
	for n := range 8 {
		rest := append(full(7, 16), raw(1, 8)[:n]...)
		refused(t, "fewer than 8 bytes are left", fine(2, len(rest)).bytes(rest...), api.ErrCommand)
		// The bytes of the next one stand there, but are not among those that the commands have.
		refused(t, "fewer than 8 bytes of the commands are left", fine(2, len(rest)).bytes(append(rest, raw(1, 8)[n:]...)...), api.ErrCommand)
	}
	refused(t, "one that goes on behind the commands", fine(1, 16).bytes(full(1, 24)...), api.ErrCommand)
	refused(t, "one more than there are", fine(3, 24).bytes(append(full(1, 8), full(2, 16)...)...), api.ErrCommand)
	refused(t, "one, without bytes", fine(1, 0).bytes(), api.ErrCommand)
}

// TestTheFirstErrorIsAnswered: all that is wrong with a header, mended one by one, from the first error on.
func TestTheFirstErrorIsAnswered(t *testing.T) {
	s := says{magic: 1, cpu: 1, sub: 1, kind: 1, count: 257, size: 100}
	rest := raw(1, 9)
	refused(t, "too short, too", s.bytes()[:31], api.ErrShort)
	refused(t, "magic", s.bytes(rest...), api.ErrMagic)
	s.magic = 0xFEEDFACF
	refused(t, "cputype, subtype", s.bytes(rest...), api.ErrArch)
	s.cpu = 0x0100000C
	refused(t, "subtype", s.bytes(rest...), api.ErrArch)
	s.sub = 2
	refused(t, "filetype", s.bytes(rest...), api.ErrCommand)
	s.kind = 6
	refused(t, "too many", s.bytes(rest...), api.ErrMany)
	s.count = 1
	refused(t, "fewer bytes than the commands have", s.bytes(rest...), api.ErrShort)
	s.size = 8
	refused(t, "a wrong command", s.bytes(rest...), api.ErrCommand)
	rest[4] = 8
	told(t, "nothing", s.bytes(rest...), api.Head{Sub: 2, Kind: api.Dylib}, 40, rest)
}

func TestMoreThanMaxFileBytesAreRead(t *testing.T) {
	one, other := full(1, 1<<21), full(2, 8)
	told(t, "great commands", append(whole(one, other), 1), execHead, 32+1<<21+8, one, other)
}

func TestWhatIsReadIsNewMemory(t *testing.T) {
	b := whole(full(1, 16), full(2, 24))
	_, l, _ := command.Read(b)
	clear(b)
	if !bytes.Equal(l[0].Bytes, full(1, 16)) || !bytes.Equal(l[1].Bytes, full(2, 24)) {
		t.Errorf("what was read changes with the bytes: %v", l)
	}
	_ = append(l[0].Bytes, 9, 9, 9, 9)
	clear(l[0].Bytes)
	if !bytes.Equal(l[1].Bytes, full(2, 24)) {
		t.Errorf("a command changes with another one: %v", l)
	}
}
