package nodeset_test

import (
	"math"
	"slices"

	"cohesion/nodeset"
	"cohesion/probe"
)

// operation is a function of two lists, with the rule by which a number belongs to its result.
type operation struct {
	name  string
	apply func(a, b []int) []int
	rule  func(inA, inB bool) bool
}

func operations() []operation {
	return []operation{
		{"Union", nodeset.Union, func(inA, inB bool) bool { return inA || inB }},
		{"Meet", nodeset.Meet, func(inA, inB bool) bool { return inA && inB }},
		{"Minus", nodeset.Minus, func(inA, inB bool) bool { return inA && !inB }},
	}
}

// smallLists are all short lists of a few numbers, among them a negative one.
func smallLists() [][]int { return probe.Lists([]int{-1, 0, 1, 2}, 3) }

// variedLists are a few lists of every kind that the document tells apart, with numbers of any size.
func variedLists() [][]int {
	return [][]int{
		nil, {}, {0}, {-1}, {63}, {64}, {0, 1, 2}, {2, 1, 0}, {1, 1, 1}, {0, 2, 1, 2, 0}, {-5, 3, -5, 70, 3},
		{math.MaxInt, math.MinInt}, {math.MinInt, math.MinInt + 1, -1, 0, 1, math.MaxInt - 1, math.MaxInt}, {math.MaxInt, 0, math.MaxInt},
		counting(0, 200), falling(200), slices.Repeat([]int{7, 3, 5}, 40),
	}
}

func counting(from, to int) []int {
	var l []int
	for x := from; x < to; x++ {
		l = append(l, x)
	}
	return l
}

func falling(length int) []int {
	l := counting(0, length)
	slices.Reverse(l)
	return l
}

// occursIn is membership by its definition, without the package under test.
func occursIn(l []int, x int) bool {
	for _, y := range l {
		if x == y {
			return true
		}
	}
	return false
}

// setBy returns the numbers of both lists that the rule asks for, by insertion of one after the other.
func setBy(a, b []int, rule func(inA, inB bool) bool) []int {
	var set []int
	for _, x := range append(slices.Clone(a), b...) {
		if !rule(occursIn(a, x), occursIn(b, x)) || occursIn(set, x) {
			continue
		}
		at := 0
		for at < len(set) && set[at] < x {
			at++
		}
		set = slices.Insert(set, at, x)
	}
	return set
}
