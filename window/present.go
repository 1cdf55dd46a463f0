package window

import (
	"cmp"
	"slices"

	"cohesion/api"
)

// present is the links that are in a window of an extent, in memory of their own: those that were set first stand first, and of
// one time they are in the order of edges. So whatever expires stands before what does not.
type present struct {
	extent
	byAge []api.Link
}

func presentIn(x extent, l []api.Link) present {
	return present{x, slices.SortedFunc(slices.Values(l), compareAges)}
}

// compareAges tells which of two links expires first.
func compareAges(a, b api.Link) int {
	return cmp.Or(cmp.Compare(a.Time, b.Time), cmp.Compare(a.U, b.U), cmp.Compare(a.V, b.V))
}

// compareEdges tells which of two cuts comes first in a state.
func compareEdges(a, b api.Event) int {
	return cmp.Or(cmp.Compare(a.U, b.U), cmp.Compare(a.V, b.V))
}

// until returns the earliest time at which a link expires if nothing else happens, and whether there is one.
func (p *present) until() (int, bool) {
	if p.width == endless || len(p.byAge) == 0 {
		return 0, false
	}
	return p.byAge[0].Time + p.width, true
}

// expire removes the links that are not in the window at a time, and returns their cuts, in the order of edges.
func (p *present) expire(time int) []api.Event {
	var cuts []api.Event
	count := p.expired(time)
	for _, link := range p.byAge[:count] {
		cuts = append(cuts, api.Event{Kind: api.EvCut, Time: time, U: link.U, V: link.V})
	}
	p.byAge = p.byAge[count:]
	slices.SortFunc(cuts, compareEdges)
	return cuts
}

// expired returns how many links are not in the window at a time: all that are too old, and so many that the most there may be
// are left.
func (p *present) expired(time int) int {
	old, _ := slices.BinarySearchFunc(p.byAge, time-p.width+1, func(link api.Link, time int) int { return cmp.Compare(link.Time, time) })
	return max(old, len(p.byAge)-p.most)
}

// apply lets a valid event happen, at no earlier time than those before it. It does what links.Apply does to the ends and the times of
// links, which are all that matters here, without going through a whole state to check it.
func (p *present) apply(e api.Event) {
	ends := api.Link{U: min(e.U, e.V), V: max(e.U, e.V), Time: e.Time}
	p.byAge = slices.DeleteFunc(p.byAge, func(link api.Link) bool {
		if e.Kind == api.EvLeave {
			return link.U == e.U || link.V == e.U
		}
		return link.U == ends.U && link.V == ends.V
	})
	if e.Kind == api.EvSet {
		at, _ := slices.BinarySearchFunc(p.byAge, ends, compareAges)
		p.byAge = slices.Insert(p.byAge, at, ends)
	}
}
