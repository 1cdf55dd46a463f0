package history_test

import (
	"slices"
	"testing"

	"cohesion/api"
	"cohesion/event"
	"cohesion/history"
	"cohesion/links"
)

// at is At of a history without an error.
func at(t *testing.T, h story, time int) api.State {
	t.Helper()
	s, err := history.At(h.nodes, h.l, time)
	if err != api.OK {
		t.Fatalf("At %d of %v has error %d", time, h, err)
	}
	return s
}

// eachVersion goes through histories of all kinds, and the times of their events: with what there was before, and what there is
// behind a time.
func eachVersion(t *testing.T, try func(h story, time int, before, behind api.State)) {
	t.Helper()
	seen := 0
	eachHistory(func(h story) {
		before := state(h.nodes)
		for i, e := range h.l {
			if i+1 < len(h.l) && h.l[i+1].Time == e.Time {
				continue
			}
			behind := at(t, h, e.Time)
			try(h, e.Time, before, behind)
			before = behind
			seen++
		}
	})
	if seen < 20000 {
		t.Errorf("there were only %d versions", seen)
	}
}

func TestAtBetweenTwoEventsIsAtOfTheEarlierOne(t *testing.T) {
	eachHistory(func(h story) {
		for i, e := range h.l {
			next := e.Time + 3
			if i+1 < len(h.l) {
				next = h.l[i+1].Time
			}
			for _, time := range []int{e.Time + 1, (e.Time + next) / 2, next - 1} {
				if time > e.Time && time < next && !same(at(t, h, time), at(t, h, e.Time)) {
					t.Errorf("At %d of %v is %s, but at %d it is %s", time, h, text(at(t, h, time)), e.Time, text(at(t, h, e.Time)))
				}
			}
		}
	})
}

func TestStatesAreValid(t *testing.T) {
	eachVersion(t, func(h story, time int, _, behind api.State) {
		if err := links.Check(behind); err != api.OK || behind.Nodes != h.nodes {
			t.Errorf("At %d of %v is %s, with error %d", time, h, text(behind), err)
		}
	})
}

// checkLeads checks that what is between two states leads from the first one to the links of the second one: with their times, if
// these were there before, and with the time of the events otherwise.
func checkLeads(t *testing.T, a, b api.State, time int) {
	t.Helper()
	l, err := history.Between(a, b, time)
	if err != api.OK {
		t.Fatalf("Between %s and %s, at %d, has error %d", text(a), text(b), time, err)
	}
	want := state(b.Nodes, slices.Clone(b.Links)...)
	for i, link := range want.Links {
		old, wasThere := linkOf(a, link.U, link.V)
		want.Links[i].Time = old.Time
		if old != want.Links[i] || !wasThere {
			want.Links[i].Time = time
		}
	}
	if got, count, err := links.All(a, l); !same(got, want) || count != len(l) || err != api.OK {
		t.Errorf("%s leads from %s to %s, not to %s, with %d changes, error %d", list(l), text(a), text(got), text(want), count, err)
	}
	for i, e := range l {
		if event.Check(e) != api.OK || e.Time != time || e.U >= e.V {
			t.Errorf("Between %s and %s, at %d, has the event %v", text(a), text(b), time, e)
		}
		if i > 0 && slices.Compare([]int{l[i-1].U, l[i-1].V}, []int{e.U, e.V}) >= 0 {
			t.Errorf("Between %s and %s, at %d, is not in order: %s", text(a), text(b), time, list(l))
		}
	}
	if again, err := history.Between(want, b, time); len(again) > 0 || err != api.OK {
		t.Errorf("behind what is between %s and %s, there is %s left, error %d", text(a), text(b), list(again), err)
	}
}

func TestBetweenLeadsFromOneStateToTheOther(t *testing.T) {
	eachVersion(t, func(_ story, time int, before, behind api.State) {
		checkLeads(t, before, behind, time)
		checkLeads(t, behind, before, time)
	})
	for _, states := range [][]api.State{statesOf(2), statesOf(3), largerStates()} {
		for _, a := range states {
			for _, b := range states {
				checkLeads(t, a, b, 7)
			}
		}
	}
}

// At a time that is not among the Times, nothing is other than before; at one that is, at most what came is gone again.
func TestNothingChangesAtOtherTimes(t *testing.T) {
	eachVersion(t, func(h story, time int, before, behind api.State) {
		times, err := history.Times(h.nodes, h.l)
		if err != api.OK {
			t.Fatalf("Times of %v has error %d", h, err)
		}
		if _, isAmong := slices.BinarySearch(times, time); !isAmong && !same(before, behind) {
			t.Errorf("Times of %v are %v, but at %d there is %s, and before %s", h, times, time, text(behind), text(before))
		}
	})
}

// eachEdge goes through histories of all kinds, and the edges of some nodes.
func eachEdge(try func(h story, u, v int)) {
	eachHistory(func(h story) {
		for _, ends := range pairsOf(min(h.nodes, 3)) {
			try(h, ends[0], ends[1])
		}
	})
}

// Spans are not empty and do not touch; at the first of their times the edge is there, and at the second one it is not.
func TestSpansAreInOrderAndApart(t *testing.T) {
	eachEdge(func(h story, u, v int) {
		spans, err := history.Life(h.nodes, h.l, u, v)
		if err != api.OK {
			t.Fatalf("Life of %d, %d in %v has error %d", u, v, h, err)
		}
		last := -1
		for i, span := range spans {
			isOpen := span[1] == -1
			if span[0] <= last || isOpen && i+1 < len(spans) || !isOpen && span[1] <= span[0] {
				t.Fatalf("Life of %d, %d in %v is %v", u, v, h, spans)
			}
			last = span[1]
			if links.Find(at(t, h, span[0]), u, v) < 0 || links.Find(at(t, h, span[0]-1), u, v) >= 0 || !isOpen && (links.Find(at(t, h, span[1]-1), u, v) < 0 || links.Find(at(t, h, span[1]), u, v) >= 0) {
				t.Errorf("Life of %d, %d in %v is %v, which is not what there is at these times", u, v, h, spans)
			}
		}
	})
}

// An edge joins its ends, so they are joined when it is there first, or before.
func TestAnEdgeJoinsItsEnds(t *testing.T) {
	eachEdge(func(h story, u, v int) {
		first, isThere, _ := history.First(h.nodes, h.l, u, v)
		joined, isJoined, err := history.Joined(h.nodes, h.l, []int{min(u, v), max(u, v)})
		if isThere && !isJoined || isThere && joined > first || err != api.OK {
			t.Errorf("First of %d, %d in %v is %d, %t, and Joined is %d, %t, error %d", u, v, h, first, isThere, joined, isJoined, err)
		}
	})
}

// Whatever set lies in one component, each part of it does so too.
func TestAGreaterSetIsJoinedNoEarlier(t *testing.T) {
	eachHistory(func(h story) {
		for _, set := range setsOf(min(h.nodes, 3)) {
			whole, isJoined, _ := history.Joined(h.nodes, h.l, set)
			for i := range set {
				part, isPartJoined, err := history.Joined(h.nodes, h.l, slices.Concat(set[:i], set[i+1:]))
				if isJoined && (!isPartJoined || part > whole) || err != api.OK {
					t.Errorf("Joined of %v in %v is %d, %t, but without %d it is %d, %t, error %d", set, h, whole, isJoined, set[i], part, isPartJoined, err)
				}
			}
		}
	})
}

// What happens behind a time does not matter for what was first.
func TestTheFirstTimeIsThatOfEachHistoryThatBeginsSo(t *testing.T) {
	eachShortHistory(func(h story) {
		first, ok, _ := history.First(4, h.l, 0, 1)
		joined, isJoined, _ := history.Joined(4, h.l, []int{0, 2})
		longer := story{4, append(slices.Clone(h.l), leave(50, 1), setAt(60, 0, 1), setAt(70, 2, 1), leave(80, 2))}
		if !ok {
			first = 60
		}
		if !isJoined {
			joined = 70
		}
		checkFirst(t, longer, [2]int{0, 1}, first, true, api.OK)
		checkJoined(t, longer, []int{0, 2}, joined, true, api.OK)
	})
}
