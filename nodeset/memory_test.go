package nodeset_test

import (
	"math"
	"slices"
	"testing"

	"cohesion/nodeset"
	"cohesion/probe"
)

// Numbers that occur in no list: one stands behind the ends of guarded lists, the other one is written over results.
const (
	untouched = -77
	spoilt    = -78
)

// calls are all functions that take lists, as functions of two lists; those that return no list return nil.
func calls() map[string]func(a, b []int) []int {
	all := map[string]func(a, b []int) []int{
		"Valid":  func(a, b []int) []int { nodeset.Valid(a, 3); return nil },
		"Of":     func(a, b []int) []int { return nodeset.Of(a) },
		"Has":    func(a, b []int) []int { nodeset.Has(a, 1); return nil },
		"Within": func(a, b []int) []int { nodeset.Within(a, b); return nil },
		"Cmp":    func(a, b []int) []int { nodeset.Cmp(a, b); return nil },
	}
	for _, o := range operations() {
		all[o.name] = o.apply
	}
	return all
}

// R2: neither by a call nor by a change of its result.
func TestArgumentsAreNotChanged(t *testing.T) {
	for name, call := range calls() {
		for _, a := range variedLists() {
			for _, b := range variedLists() {
				x, y := probe.Guarded(a, untouched), probe.Guarded(b, untouched)
				result := call(x, y)
				if !probe.IsUnchanged(x, a, untouched) || !probe.IsUnchanged(y, b, untouched) {
					t.Errorf("%s(%v, %v) changes an argument", name, a, b)
				}
				probe.Spoil(result, spoilt)
				if !probe.IsUnchanged(x, a, untouched) || !probe.IsUnchanged(y, b, untouched) {
					t.Errorf("%s(%v, %v) shares its result with an argument", name, a, b)
				}
			}
		}
	}
}

// R2: a result neither follows later changes of the arguments nor those of another result.
func TestResultsAreNewMemory(t *testing.T) {
	for name, call := range calls() {
		for _, a := range variedLists() {
			for _, b := range variedLists() {
				x, y := probe.Guarded(a, untouched), probe.Guarded(b, untouched)
				result, other := call(x, y), call(x, y)
				before := slices.Clone(result)
				probe.Spoil(x, spoilt)
				probe.Spoil(y, spoilt)
				probe.Spoil(other, spoilt)
				if !slices.Equal(result, before) || !slices.Equal(call(a, b), before) {
					t.Errorf("%s(%v, %v) shares its result", name, a, b)
				}
			}
		}
	}
}

func TestArgumentsMayShareMemory(t *testing.T) {
	for _, l := range variedLists() {
		set := nodeset.Of(l)
		for i := range l {
			a, b := l[:i], l[i/2:]
			for _, o := range operations() {
				sameSets(t, o.name, o.apply(a, b), setBy(a, b, o.rule), a, b)
			}
		}
		sameSets(t, "a + a = a", nodeset.Union(l, l), set, l)
		sameSets(t, "a * a = a", nodeset.Meet(l, l), set, l)
		sameSets(t, "a - a = nothing", nodeset.Minus(l, l), nil, l)
	}
}

func TestRangeIsNewMemoryInEachCall(t *testing.T) {
	for _, nodes := range []int{1, 5, 64, 1000} {
		first := nodeset.Range(nodes)
		second := nodeset.Range(nodes)
		probe.Spoil(first, spoilt)
		if want := counting(0, min(nodes, 64)); !slices.Equal(second, want) || !slices.Equal(nodeset.Range(nodes), want) {
			t.Errorf("Range(%d) shares its result", nodes)
		}
	}
}

// R1: no arguments make a function panic.
func TestNothingPanics(t *testing.T) {
	numbers := []int{math.MinInt, math.MinInt + 1, -1, 0, 1, 64, math.MaxInt}
	lists := append(probe.Lists(numbers, 2), variedLists()...)
	for _, a := range lists {
		for _, x := range numbers {
			nodeset.Valid(a, x)
			nodeset.Has(a, x)
			nodeset.Range(x)
		}
		for _, b := range lists {
			for _, call := range calls() {
				call(a, b)
			}
		}
	}
}

// R2: a nil list and an empty one are equivalent.
func TestNilAndEmptyListsAreEquivalent(t *testing.T) {
	for _, l := range variedLists() {
		for name, call := range calls() {
			sameSets(t, name, call(nil, l), call([]int{}, l), l)
			sameSets(t, name, call(l, nil), call(l, []int{}), l)
		}
		if nodeset.Cmp(nil, l) != nodeset.Cmp([]int{}, l) || nodeset.Within(nil, l) != nodeset.Within([]int{}, l) || nodeset.Within(l, nil) != nodeset.Within(l, []int{}) {
			t.Errorf("nil and empty lists differ beside %v", l)
		}
	}
}
