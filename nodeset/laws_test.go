package nodeset_test

import (
	"math"
	"slices"
	"testing"

	"cohesion/nodeset"
	"cohesion/probe"
)

// lawLists are few enough that all triples of them can be gone through.
func lawLists() [][]int {
	return append(probe.Lists([]int{0, 1, 2}, 2), []int{2, 0, 2, 1}, []int{-3, 64, -3}, []int{math.MaxInt, 1, math.MinInt}, []int{64, 2, -3})
}

func sameSets(t *testing.T, law string, left, right []int, of ...[]int) {
	t.Helper()
	if !slices.Equal(left, right) {
		t.Errorf("%s: %v and %v, of %v", law, left, right, of)
	}
}

func TestUnionAndMeetAreCommutative(t *testing.T) {
	for _, a := range append(lawLists(), variedLists()...) {
		for _, b := range append(lawLists(), variedLists()...) {
			sameSets(t, "a + b = b + a", nodeset.Union(a, b), nodeset.Union(b, a), a, b)
			sameSets(t, "a * b = b * a", nodeset.Meet(a, b), nodeset.Meet(b, a), a, b)
		}
	}
}

func TestUnionAndMeetAreAssociativeAndDistributive(t *testing.T) {
	plus, times := nodeset.Union, nodeset.Meet
	for _, a := range lawLists() {
		for _, b := range lawLists() {
			for _, c := range lawLists() {
				sameSets(t, "(a + b) + c = a + (b + c)", plus(plus(a, b), c), plus(a, plus(b, c)), a, b, c)
				sameSets(t, "(a * b) * c = a * (b * c)", times(times(a, b), c), times(a, times(b, c)), a, b, c)
				sameSets(t, "a * (b + c) = a * b + a * c", times(a, plus(b, c)), plus(times(a, b), times(a, c)), a, b, c)
				sameSets(t, "a + b * c = (a + b) * (a + c)", plus(a, times(b, c)), times(plus(a, b), plus(a, c)), a, b, c)
			}
		}
	}
}

func TestMinusAndMeetDivideAList(t *testing.T) {
	lists := append(lawLists(), variedLists()...)
	for _, a := range lists {
		for _, b := range lists {
			outside, inside := nodeset.Minus(a, b), nodeset.Meet(a, b)
			sameSets(t, "(a - b) + a * b = a", nodeset.Union(outside, inside), nodeset.Of(a), a, b)
			sameSets(t, "(a - b) * (a * b) = nothing", nodeset.Meet(outside, inside), nil, a, b)
			if len(outside)+len(inside) != len(nodeset.Of(a)) {
				t.Errorf("Minus and Meet of %v and %v have a number in common", a, b)
			}
		}
	}
}

func TestOfLeavesSetsAsTheyAre(t *testing.T) {
	for _, l := range append(lawLists(), variedLists()...) {
		set := nodeset.Of(l)
		sameSets(t, "Of(Of(l)) = Of(l)", nodeset.Of(set), set, l)
		if !nodeset.Within(l, set) || !nodeset.Within(set, l) {
			t.Errorf("Of(%v) = %v has other numbers", l, set)
		}
	}
}
