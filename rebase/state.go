package rebase

import (
	"clevis/api"
	"clevis/cursor"
	"clevis/image"
)

// state is how far a stream of an image, and of its slice, has come.
type state struct {
	slice    []byte
	image    api.Image
	place    uint64
	hasPlace bool
	kind     uint64 // the type; 0 at first, which no rebase has
	rebases  []api.Fixup
}

// may what an opcode tells be done, as far as the stream has come? An opcode of rebases of no times is asked as any other one.
func (s *state) may(what byte) bool {
	switch what {
	case opFew, opMany, opOneSkip, opSkips:
		if s.kind != pointer {
			return false
		}
		fallthrough
	case opFurther, opWords:
		return s.hasPlace
	case opType, opPlace:
		return true
	}
	return false
}

// do does what an opcode tells, that may be done.
func (s *state) do(o opcode) api.Errno {
	switch o.what {
	case opType:
		s.kind = o.imm
	case opPlace:
		return s.goTo(o.imm, o.numbers[0])
	case opFurther:
		return s.further(o.numbers[0])
	case opWords:
		return s.further(o.imm * wordSize)
	case opFew:
		return s.repeat(o.imm, 0)
	case opMany:
		return s.repeat(o.numbers[0], 0)
	case opOneSkip:
		return s.repeat(1, o.numbers[0])
	case opSkips:
		return s.repeat(o.numbers[0], o.numbers[1])
	}
	return api.OK
}

// goTo lets the place be that of an offset in a segment.
func (s *state) goTo(segment, offset uint64) api.Errno {
	place, err := image.Place(s.image, segment, offset)
	if err != api.OK {
		return err
	}
	s.place, s.hasPlace = place, true
	return api.OK
}

// further lets the place be n further.
func (s *state) further(n uint64) api.Errno {
	place, is := cursor.Add(s.place, n)
	if !is {
		return api.ErrRange
	}
	s.place = place
	return api.OK
}

// repeat is so many rebases, behind each of which the place is skip further. How many is asked ahead: a number in the stream, not its bytes, says it.
func (s *state) repeat(times, skip uint64) api.Errno {
	if times > api.MaxFixups-uint64(len(s.rebases)) {
		return api.ErrMany
	}
	for range times {
		if err := s.rebase(); err != api.OK {
			return err
		}
		if err := s.further(skip); err != api.OK {
			return err
		}
	}
	return api.OK
}

// rebase is one rebase, behind which the place is.
func (s *state) rebase() api.Errno {
	if !image.Writable(s.image, s.place, wordSize) {
		return api.ErrProt
	}
	target, err := image.Word(s.slice, s.image, s.place)
	if err != api.OK {
		return err
	}
	s.rebases = append(s.rebases, api.Fixup{At: s.place, Kind: api.FixRebase, Target: target})
	return s.further(wordSize)
}
