package links_test

import (
	"slices"
	"testing"

	"cohesion/api"
	"cohesion/event"
	"cohesion/graph"
	"cohesion/links"
)

// fewEvents are valid events for nearly all states.
func fewEvents() []api.Event {
	return []api.Event{
		set(5, 0, 1, 1, 0, 1), set(6, 1, 0, 1, 0, 1), set(1<<20, 2, 1, 1000, 15, -1), set(0, 0, 3, 7, 7, -1), set(9, 62, 63, 1, 0, 1),
		cut(9, 0, 1), cut(8, 2, 1), cut(7, 3, 0), cut(3, 63, 31), leave(0, 0), leave(1<<20, 1), leave(4, 2), leave(4, 31), leave(4, 63),
	}
}

// eachStep goes through all states with all events that can happen to them, and what they lead to.
func eachStep(t *testing.T, try func(s api.State, e api.Event, next api.State, changes []api.Event)) {
	t.Helper()
	steps := 0
	for _, s := range validStates() {
		for _, e := range fewEvents() {
			next, changes, err := links.Apply(s, e)
			if err == api.OK {
				try(s, e, next, changes)
				steps++
			}
		}
	}
	if steps < 5000 {
		t.Errorf("there were only %d steps", steps)
	}
}

func TestChangesLeadFromTheOldStateToTheNewOne(t *testing.T) {
	eachStep(t, func(s api.State, e api.Event, next api.State, changes []api.Event) {
		if got, count, err := links.All(s, changes); !same(got, next) || count != len(changes) || err != api.OK {
			t.Errorf("the changes %+v lead from %+v to %+v, %d, %d, not to %+v", changes, s, got, count, err, next)
		}
		if (len(changes) == 0) != same(s, next) {
			t.Errorf("Apply(%+v, %+v) leads to %+v, with the changes %+v", s, e, next, changes)
		}
	})
}

func TestChangesAreValidEventsInTheOrderOfEdges(t *testing.T) {
	eachStep(t, func(s api.State, e api.Event, _ api.State, changes []api.Event) {
		for i, c := range changes {
			if event.Check(c) != api.OK || c.Time != e.Time || c.U >= c.V || (c.Kind == api.EvSet) != (e.Kind == api.EvSet) {
				t.Errorf("Apply(%+v, %+v) has the change %+v", s, e, c)
			}
			if i > 0 && slices.Compare([]int{changes[i-1].U, changes[i-1].V}, []int{c.U, c.V}) >= 0 {
				t.Errorf("Apply(%+v, %+v) has changes that are not in order, %+v", s, e, changes)
			}
		}
	})
}

func TestResultsAreValidStates(t *testing.T) {
	eachStep(t, func(s api.State, e api.Event, next api.State, _ []api.Event) {
		if err := links.Check(next); err != api.OK || next.Nodes != s.Nodes {
			t.Errorf("Apply(%+v, %+v) = %+v, which has the error %d", s, e, next, err)
		}
	})
	for _, s := range validStates() {
		part, _ := links.Where(s, []int{0, 3}, 0, 1)
		g, _ := links.Graph(s)
		if links.Check(part) != api.OK || graph.Check(g) != api.OK || part.Nodes != s.Nodes || g.Nodes != s.Nodes {
			t.Errorf("Where and Graph of %+v are %+v and %+v", s, part, g)
		}
	}
}

func TestTheSameEventAgainChangesNothing(t *testing.T) {
	eachStep(t, func(_ api.State, e api.Event, next api.State, _ []api.Event) {
		checkApply(t, next, e, next, nil, api.OK)
	})
}

func TestCutUndoesTheSetOfANewLink(t *testing.T) {
	undone := 0
	for _, s := range validStates() {
		for u := range min(s.Nodes, 8) {
			for v := range min(s.Nodes, 8) {
				if u == v || links.Find(s, u, v) >= 0 {
					continue
				}
				undone++
				changed, _, err := links.Apply(s, set(9, u, v, 4, 5, -1))
				if err != api.OK || same(changed, s) {
					t.Errorf("Apply of a new link %d, %d to %+v = %+v, %d", u, v, s, changed, err)
				}
				checkApply(t, changed, cut(9, v, u), s, []api.Event{cut(9, min(u, v), max(u, v))}, api.OK)
			}
		}
	}
	if undone < 1000 {
		t.Errorf("only %d links were new", undone)
	}
}

// All of a list is All of its end behind All of its beginning.
func TestAListCanBeAppliedInParts(t *testing.T) {
	l := slices.DeleteFunc(fewEvents(), func(e api.Event) bool { return max(e.U, e.V) > 3 })
	for _, s := range append(statesOf(4), largerStates()...) {
		whole, count, err := links.All(s, l)
		for at := range len(l) + 1 {
			begun, first, _ := links.All(s, l[:at])
			ended, second, _ := links.All(begun, l[at:])
			if !same(ended, whole) || first+second != count || err != api.OK {
				t.Fatalf("All(%+v) in parts = %+v, %d + %d, and at once %+v, %d, %d", s, ended, first, second, whole, count, err)
			}
		}
	}
}

// What one function says of a link, the others say too.
func TestLooksAgree(t *testing.T) {
	for _, s := range validStates() {
		g, _ := links.Graph(s)
		for u := range s.Nodes {
			for v := range s.Nodes {
				if links.Find(s, u, v) != graph.Find(g, u, v) {
					t.Fatalf("%d and %d of %+v are linked for one function, not for another one", u, v, s)
				}
			}
		}
	}
}

// With both signs, and with each label, each link comes once.
func TestWhereDividesTheLinks(t *testing.T) {
	for _, s := range append(statesOf(3), largerStates()...) {
		signs, labels := 0, 0
		for _, sign := range []int{1, -1} {
			part, _ := links.Where(s, nil, sign, 0)
			signs += len(part.Links)
		}
		for label := range api.MaxLabel + 1 {
			part, _ := links.Where(s, []int{label}, 0, 0)
			labels += len(part.Links)
		}
		if signs != len(s.Links) || labels != len(s.Links) {
			t.Errorf("%+v has %d links by sign and %d by label", s, signs, labels)
		}
		checkWhere(t, s, nil, 0, 0, s, api.OK)
	}
}
