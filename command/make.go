package command

import (
	"slices"

	"clevis/api"
	"clevis/cursor"
)

// One is the command that says that, with noughts behind it up to a multiple of 8.
func One(cmd uint32, says []byte) (api.Command, api.Errno) {
	// Rounded up it still has room: a file's greatest size is a multiple of 8, too.
	if !cursor.Within(numbers, uint64(len(says)), api.MaxFile) {
		return api.Command{}, api.ErrMany
	}
	size := (numbers + len(says) + unit - 1) / unit * unit
	b := put(nil, cmd, uint32(size))
	b = append(b, says...)
	b = append(b, make([]byte, size-len(b))...)
	return api.Command{Cmd: cmd, Bytes: b}, api.OK
}

// Make is a header, and the commands.
func Make(h api.Head, l ...api.Command) ([]byte, api.Errno) {
	mayNot := func(c api.Command) bool { return !May(c) }
	if !subMay(h.Sub) || !kindMay(h.Kind) || slices.ContainsFunc(l, mayNot) {
		return nil, api.ErrArg
	}
	size := sizeOf(l)
	if len(l) > api.MaxCommands || !cursor.Within(api.HeadSize, size, api.MaxFile) {
		return nil, api.ErrMany
	}
	b := put(nil, api.Magic, api.Cpu, uint32(h.Sub), uint32(h.Kind), uint32(len(l)), uint32(size), h.Flags, 0)
	for _, c := range l {
		b = append(b, c.Bytes...)
	}
	return b, api.OK
}

// sizeOf is how many bytes commands have together. Of such that may be each has less than 2^32: their sum is not beyond 2^64.
func sizeOf(l []api.Command) uint64 {
	var size uint64
	for _, c := range l {
		size += uint64(len(c.Bytes))
	}
	return size
}

// put lays numbers of 4 bytes behind b, of each the lowest byte first.
func put(b []byte, l ...uint32) []byte {
	for _, n := range l {
		b = append(b, byte(n), byte(n>>8), byte(n>>16), byte(n>>24))
	}
	return b
}
