package fixup

import (
	"slices"

	"clevis/api"
)

// size is how many bytes a fixup writes.
const size = 8

// Set is the set of fixups.
func Set(l ...api.Fixup) []api.Fixup { return set(l, Order) }

// set are things in their order, none twice. What is handed in stays as it is.
func set[T any](l []T, order func(a, b T) int) []T {
	s := slices.Clone(l)
	slices.SortFunc(s, order)
	return slices.CompactFunc(s, func(a, b T) bool { return order(a, b) == 0 })
}

// Same: are both the same, as sets?
func Same(a, b []api.Fixup) bool { return slices.Equal(Set(a...), Set(b...)) }

// Meet: do two meet? One that is there twice is one of the set, and does not meet itself.
func Meet(l ...api.Fixup) bool {
	s := Set(l...)
	for i := 1; i < len(s); i++ {
		// No two of a set are nearer to each other than two neighbours.
		if s[i].At-s[i-1].At < size {
			return true
		}
	}
	return false
}
