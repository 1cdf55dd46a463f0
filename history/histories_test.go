package history_test

import (
	"fmt"
	"math"
	"slices"

	"cohesion/api"
	"cohesion/links"
	"cohesion/probe"
)

// Events and states are written without the package under test.
var (
	set, cut, leave            = probe.Set, probe.Cut, probe.Leave
	setAt, linkAt              = probe.SetAt, probe.LinkAt
	link, state, stateBy, same = probe.Link, probe.State, probe.StateBy, probe.SameState
	longStream, longStreams    = probe.LongStream, probe.LongStreams
)

// text tells what is in a state, of many links the first ones.
func text(s api.State) string {
	return fmt.Sprintf("%d nodes, %d links %v", s.Nodes, len(s.Links), s.Links[:min(len(s.Links), 8)])
}

// list tells which events there are, of many the first ones.
func list(l []api.Event) string {
	return fmt.Sprintf("%d events %v", len(l), l[:min(len(l), 12)])
}

// story is a history, and the number of nodes that it happens to.
type story struct {
	nodes int
	l     []api.Event
}

func (h story) String() string { return fmt.Sprintf("%d nodes, %s", h.nodes, list(h.l)) }

// eachShortHistory tries all short histories of four nodes in which links come and go, at one time or at several.
func eachShortHistory(try func(h story)) {
	both := func(l []api.Event) { try(story{4, l}) }
	probe.EachStream([]api.Event{setAt(0, 0, 1), setAt(0, 2, 1), cut(0, 1, 0), leave(0, 1)}, 4, []int{0, 3}, both)
	probe.EachStream([]api.Event{setAt(0, 0, 1), set(0, 1, 0, 7, 3, -1), setAt(0, 2, 3), setAt(0, 3, 1), cut(0, 0, 1), cut(0, 3, 0), leave(0, 3)}, 3, []int{0, 1, 4}, both)
}

// longHistories are histories of several kinds.
func longHistories() []story {
	var all []story
	for nodes, streams := range longStreams() {
		for _, l := range streams {
			all = append(all, story{nodes, l})
		}
	}
	return all
}

// eachHistory tries histories of all kinds, without an error.
func eachHistory(try func(h story)) {
	for _, nodes := range []int{0, 1, 2, 64} {
		try(story{nodes, nil})
	}
	eachShortHistory(try)
	for _, h := range longHistories() {
		try(h)
	}
}

// moment is a time at which there are events, what there is behind all of them, and whether one of them changed something.
type moment struct {
	time    int
	s       api.State
	changed bool
}

// moments are those of a history without an error, by links.Apply, one event after the other.
func moments(h story) []moment {
	var all []moment
	s := state(h.nodes)
	for i, e := range h.l {
		next, changes, _ := links.Apply(s, e)
		if i == 0 || h.l[i-1].Time < e.Time {
			all = append(all, moment{time: e.Time})
		}
		last := &all[len(all)-1]
		last.s, last.changed = next, last.changed || len(changes) > 0
		s = next
	}
	return all
}

// has reports whether the nodes of a state are linked, by looking at each link.
func has(s api.State, u, v int) bool {
	return slices.ContainsFunc(s.Links, func(l api.Link) bool { return l.U == u && l.V == v || l.U == v && l.V == u })
}

// components returns a number for each node of a state, the same one for those that lie in one component: to begin with, each node
// has its own; then the ends of links get the lesser one of theirs, as long as this changes anything.
func components(s api.State) []int {
	numbers := make([]int, s.Nodes)
	for v := range numbers {
		numbers[v] = v
	}
	for isStable := false; !isStable; {
		isStable = true
		for _, l := range s.Links {
			if least := min(numbers[l.U], numbers[l.V]); numbers[l.U] != least || numbers[l.V] != least {
				numbers[l.U], numbers[l.V] = least, least
				isStable = false
			}
		}
	}
	return numbers
}

// isTogether reports whether nodes all have the same number.
func isTogether(numbers []int, nodes []int) bool {
	return !slices.ContainsFunc(nodes, func(v int) bool { return numbers[v] != numbers[nodes[0]] })
}

// pairsOf are all pairs of different nodes, in both orders.
func pairsOf(nodes int) [][2]int {
	var pairs [][2]int
	for u := range nodes {
		for v := range nodes {
			if u != v {
				pairs = append(pairs, [2]int{u, v})
			}
		}
	}
	return pairs
}

// setsOf are all sets of few nodes.
func setsOf(nodes int) [][]int {
	all := [][]int{nil}
	for v := range nodes {
		for _, set := range slices.Clone(all) {
			all = append(all, append(slices.Clone(set), v))
		}
	}
	return all
}

// wrongPairs are pairs of numbers that are not two different nodes.
func wrongPairs(nodes int) [][2]int {
	pairs := [][2]int{{-1, -1}, {-1, nodes}, {nodes, nodes}, {nodes, nodes + 1}, {math.MinInt, math.MaxInt}, {math.MaxInt, math.MinInt}, {math.MinInt, math.MinInt}, {math.MaxInt, math.MaxInt}}
	for v := range nodes {
		pairs = append(pairs, [2]int{v, v})
		for _, other := range []int{math.MinInt, -64, -2, -1, nodes, nodes + 1, 64, 65, 1 << 32, math.MaxInt} {
			if other < 0 || other >= nodes {
				pairs = append(pairs, [2]int{v, other}, [2]int{other, v})
			}
		}
	}
	return pairs
}

// wrongSets are lists that are no sets of nodes.
func wrongSets(nodes int) [][]int {
	sets := [][]int{{-1}, {nodes}, {math.MinInt}, {math.MaxInt}, {math.MinInt, math.MaxInt}, {nodes, nodes + 1}, {-2, -1}}
	for v := range nodes {
		sets = append(sets, []int{v, v}, []int{-1, v}, []int{v, nodes}, []int{v, v, nodes - 1}, []int{v, nodes, nodes + 1})
		if v > 0 {
			sets = append(sets, []int{v, 0}, []int{v, v - 1}, []int{0, v, 0}, []int{0, v, v})
		}
	}
	return sets
}

// timesAround are times before those of a history, at them, between them and behind them, and numbers that are no times.
func timesAround(l []api.Event) []int {
	times := []int{math.MinInt, -1 << 32, -1, 0, 1, 1<<20 - 1, 1 << 20, 1<<20 + 1, 1 << 32, math.MaxInt}
	for _, e := range l {
		times = append(times, e.Time-1, e.Time, e.Time+1)
	}
	return times
}
