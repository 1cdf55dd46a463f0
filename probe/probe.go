// Package probe contains what the tests of several layers share: lists of every kind, lists and calls whose memory is watched, events and states. No layer calls it.
package probe

import "slices"

// margin is how many elements stand behind the end of a guarded list, where an append to it would write.
const margin = 3

// Lists returns all lists of at most length elements, each of them one of those that are given: nil, ascending ones, lists out of order and lists with repetitions.
func Lists[T any](elements []T, length int) [][]T {
	all := [][]T{nil}
	longest := all
	for range length {
		var longer [][]T
		for _, l := range longest {
			for _, x := range elements {
				longer = append(longer, append(slices.Clone(l), x))
			}
		}
		all = append(all, longer...)
		longest = longer
	}
	return all
}

// Guarded returns a copy of a list in an array that goes on behind it.
func Guarded[T any](l []T, behind T) []T {
	return append(slices.Clone(l), slices.Repeat([]T{behind}, margin)...)[:len(l)]
}

// IsUnchanged reports whether a guarded list is as it was before, and also what is behind it.
func IsUnchanged[T comparable](guarded, before []T, behind T) bool {
	return slices.Equal(guarded[:len(guarded)+margin], append(slices.Clone(before), slices.Repeat([]T{behind}, margin)...))
}

// Spoil changes all of the memory that a list gives access to.
func Spoil[T any](l []T, by T) {
	l = l[:cap(l)]
	for i := range l {
		l[i] = by
	}
}
