package lay

import (
	"clevis/api"
	"clevis/image"
)

// Slides are images' slides.
func Slides(base uint64, l ...api.Image) ([]uint64, int, api.Errno) {
	if len(l) == 0 || base%api.Step != 0 || base > api.MaxAddress {
		return nil, 0, api.ErrArg
	}
	next := placing(base)
	slides := make([]uint64, 0, len(l))
	for i, m := range l {
		slide, err := next(m)
		if err != api.OK {
			return nil, i, err
		}
		slides = append(slides, slide)
	}
	return slides, 0, api.OK
}

// placing tells the slides of one image after the other, and goes on with the place. All images but a fixed first one stand at the place: it is a multiple of Step, and at most MaxAddress, always.
func placing(base uint64) func(api.Image) (uint64, api.Errno) {
	place, isFirst := base, true
	return func(m api.Image) (uint64, api.Errno) {
		low, high := image.Low(m), image.High(m)
		if high <= low {
			return 0, api.ErrSegment
		}
		at, size := place, high-low
		if isFirst && isFixed(m) {
			at = low
		}
		if !isBelow(at, size) {
			return 0, api.ErrRoom
		}
		// A fixed one may end ahead of the base.
		place, isFirst = max(place, roundUp(at+size)), false
		return at - low, api.OK
	}
}

// isFixed: is an image laid where it says, if it is the first one?
func isFixed(m api.Image) bool {
	return m.Kind == api.Exec && m.Flags&api.FlagPie == 0
}

// roundUp is the next multiple of Step; MaxAddress is one.
func roundUp(n uint64) uint64 {
	return (n + api.Step - 1) / api.Step * api.Step
}

// isBelow: does a range end at MaxAddress, or below?
func isBelow(at, size uint64) bool {
	return size <= api.MaxAddress && at <= api.MaxAddress-size
}
