package space

import (
	"iter"

	"clevis/api"
)

const wordSize = 8

// Fill writes bytes, whatever the protection is.
func (s *Space) Fill(at uint64, b []byte) api.Errno {
	return s.put(at, b, 0)
}

// Write writes bytes where it may.
func (s *Space) Write(at uint64, b []byte) api.Errno {
	return s.put(at, b, api.ProtWrite)
}

// Read reads bytes.
func (s *Space) Read(at, size uint64) ([]byte, api.Errno) {
	// A nil space is refused for that, however much is asked for.
	if s != nil && size > api.MaxFile {
		return nil, api.ErrRange
	}
	if err := s.may(at, size, api.ProtRead); err != api.OK {
		return nil, err
	}
	return s.told(at, size), api.OK
}

// Word reads a number of 8 bytes.
func (s *Space) Word(at uint64) (uint64, api.Errno) {
	b, err := s.Read(at, wordSize)
	var n uint64
	for i, x := range b {
		n |= uint64(x) << (8 * i)
	}
	return n, err
}

// SetWord writes one.
func (s *Space) SetWord(at uint64, n uint64) api.Errno {
	var b [wordSize]byte
	for i := range b {
		b[i] = byte(n >> (8 * i))
	}
	return s.Write(at, b[:])
}

// may: is each byte of a range there, and has its page all of a protection?
func (s *Space) may(at, size uint64, prot int) api.Errno {
	switch {
	case s == nil:
		return api.ErrNil
	case size == 0:
		return api.OK
	case !isBelow(at, size):
		return api.ErrRange
	}
	err := api.OK
	first, last := numbers(at, size)
	for n := first; n <= last; n++ {
		has, is := s.prots[n]
		if !is {
			return api.ErrRange
		}
		// A byte further on that is not there comes ahead of this.
		if has&prot != prot {
			err = api.ErrProt
		}
	}
	return err
}

// put writes bytes, if they all may be written to pages that have all of a protection.
func (s *Space) put(at uint64, b []byte, prot int) api.Errno {
	if err := s.may(at, uint64(len(b)), prot); err != api.OK {
		return err
	}
	for part := range s.parts(at, uint64(len(b))) {
		b = b[copy(part, b):]
	}
	return api.OK
}

// told is a copy of a range's bytes, that are there.
func (s *Space) told(at, size uint64) []byte {
	b := make([]byte, 0, size)
	for part := range s.parts(at, size) {
		b = append(b, part...)
	}
	return b
}

// parts goes over a range's bytes, that are there, page by page: the pages' own bytes, not copies.
func (s *Space) parts(at, size uint64) iter.Seq[[]byte] {
	return func(yield func([]byte) bool) {
		for from, end := at, at+size; from < end; {
			part := s.pages[from/api.PageSize][from%api.PageSize:]
			part = part[:min(uint64(len(part)), end-from)]
			if !yield(part) {
				return
			}
			from += uint64(len(part))
		}
	}
}
