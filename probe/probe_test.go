package probe_test

import (
	"slices"
	"testing"

	"cohesion/probe"
)

func TestListsAreAllOfThem(t *testing.T) {
	want := [][]int{nil, {5}, {3}, {5, 5}, {5, 3}, {3, 5}, {3, 3}}
	if got := probe.Lists([]int{5, 3}, 2); !slices.EqualFunc(got, want, slices.Equal) {
		t.Errorf("Lists = %v, want %v", got, want)
	}
	seen := map[[4]byte]bool{}
	for _, l := range probe.Lists([]byte("abc"), 4) {
		var key [4]byte
		copy(key[:], l)
		seen[key] = true
	}
	if len(seen) != 1+3+9+27+81 {
		t.Errorf("there are %d different lists", len(seen))
	}
}

func TestGuardedListsAreWatched(t *testing.T) {
	given := []int{1, 2}
	changes := map[string]func(l []int){
		"an element":            func(l []int) { l[1] = 7 },
		"an append":             func(l []int) { _ = append(l, 7) },
		"a cut in the middle":   func(l []int) { _ = append(l[:1], 7) },
		"the memory as a whole": func(l []int) { probe.Spoil(l, 7) },
	}
	for name, change := range changes {
		l := probe.Guarded(given, -1)
		if !slices.Equal(l, given) || !probe.IsUnchanged(l, given, -1) {
			t.Errorf("%v is not %v", l, given)
		}
		if change(l); probe.IsUnchanged(l, given, -1) {
			t.Errorf("%s is not noticed", name)
		}
	}
	if !slices.Equal(given, []int{1, 2}) {
		t.Errorf("a guarded list shares memory with the given one, which is now %v", given)
	}
	empty := probe.Guarded[int](nil, -1)
	if !probe.IsUnchanged(empty, nil, -1) {
		t.Error("an empty list seems to be changed")
	}
	if _ = append(empty, 7); probe.IsUnchanged(empty, nil, -1) {
		t.Error("an append to an empty list is not noticed")
	}
}

func TestSpoilReachesBehindTheEnd(t *testing.T) {
	l := []int{1, 2, 3, 4}
	if probe.Spoil(l[1:2], 7); !slices.Equal(l, []int{1, 7, 7, 7}) {
		t.Errorf("what was reached is %v", l)
	}
}
