package links_test

import (
	"math"
	"slices"
	"testing"

	"cohesion/api"
	"cohesion/links"
	"cohesion/probe"
)

func checkCheck(t *testing.T, s api.State, want api.Errno) {
	t.Helper()
	if got := links.Check(s); got != want {
		t.Errorf("Check(%+v) = %d, want %d", s, got, want)
	}
}

func TestP5_1CheckAcceptsValidStates(t *testing.T) {
	for _, s := range validStates() {
		checkCheck(t, s, api.OK)
	}
	for nodes := -70; nodes <= 140; nodes++ {
		want := api.OK
		if nodes < 0 || nodes > 64 {
			want = api.ErrRange
		}
		checkCheck(t, state(nodes), want)
	}
	all := largerStates()
	if most := all[len(all)-1]; len(most.Links) != api.MaxEdges {
		t.Errorf("the greatest state has %d links", len(most.Links))
	}
}

func TestP5_1CheckReturnsTheFirstError(t *testing.T) {
	for _, c := range probe.FlawedStates() {
		checkCheck(t, c.State, c.Err)
	}
}

func TestP5_1OfEachFieldAllValuesAroundItsLimits(t *testing.T) {
	checkField := func(isRight bool, wrong api.Errno, l api.Link) {
		want := wrong
		if isRight {
			want = api.OK
		}
		checkCheck(t, state(64, l), want)
		checkCheck(t, state(64, plain(0, 1), l), want)
	}
	for x := -70; x <= 1100; x++ {
		checkField(0 <= x && x < 63, api.ErrNode, plain(x, 63))
		checkField(2 < x && x <= 63, api.ErrNode, plain(2, x))
		checkField(1 <= x && x <= 1000, api.ErrRange, link(0, 2, x, 0, 1, 0))
		checkField(0 <= x && x <= 15, api.ErrRange, link(0, 2, 1, x, 1, 0))
		checkField(x == 1 || x == -1, api.ErrRange, link(0, 2, 1, 0, x, 0))
		checkField(x >= 0, api.ErrTime, link(0, 2, 1, 0, 1, x))
		checkField(x >= 0, api.ErrTime, link(0, 2, 1, 0, 1, 1<<20-x))
	}
	for _, x := range []int{math.MinInt, math.MinInt + 1, -1 << 20, -1 << 32, -65536, 65536, 65537, 1 << 32, 1<<32 + 1, math.MaxInt} {
		checkField(false, api.ErrNode, plain(x, 2))
		checkField(false, api.ErrNode, plain(2, x))
		checkField(false, api.ErrRange, link(0, 2, x, 0, 1, 0))
		checkField(false, api.ErrRange, link(0, 2, 1, x, 1, 0))
		checkField(false, api.ErrRange, link(0, 2, 1, 0, x, 0))
	}
	for _, x := range []int{math.MinInt, math.MinInt + 1, -1 << 20, -1 << 32, 1<<20 + 1, 1 << 32, math.MaxInt} {
		checkField(false, api.ErrTime, link(0, 2, 1, 0, 1, x))
	}
}

// firstError is Check by its definition: of each link all errors are asked for, and the first link with one decides.
func firstError(s api.State) api.Errno {
	if s.Nodes < 0 || s.Nodes > 64 {
		return api.ErrRange
	}
	for i, l := range s.Links {
		hasEnds := 0 <= l.U && l.U < l.V && l.V < s.Nodes
		hasAttributes := 1 <= l.Weight && l.Weight <= 1000 && 0 <= l.Label && l.Label <= 15 && (l.Sign == 1 || l.Sign == -1)
		hasTime := 0 <= l.Time && l.Time <= 1048576
		isGreater := true
		if i > 0 {
			before := s.Links[i-1]
			isGreater = before.U < l.U || before.U == l.U && before.V < l.V
		}
		switch false {
		case hasEnds:
			return api.ErrNode
		case hasAttributes:
			return api.ErrRange
		case hasTime:
			return api.ErrTime
		case isGreater:
			return api.ErrOrder
		}
	}
	return api.OK
}

// linksAround are links whose ends are from -1 to 3, with attributes or a time that are wrong, if they shall be.
func linksAround(alsoWrong bool) []api.Link {
	var l []api.Link
	for u := -1; u <= 3; u++ {
		for v := -1; v <= 3; v++ {
			l = append(l, plain(u, v))
			if alsoWrong {
				l = append(l, link(u, v, 0, 2, -1, 7), link(u, v, 3, 2, -1, -1), link(u, v, 3, 16, -1, 1<<20+1))
			}
		}
	}
	return l
}

func TestP5_1CheckIsItsDefinition(t *testing.T) {
	for _, l := range append(probe.Lists(linksAround(false), 3), probe.Lists(linksAround(true), 2)...) {
		for _, nodes := range []int{-1, 0, 1, 2, 3, 4, 64, 65} {
			s := api.State{Nodes: nodes, Links: l}
			if got, want := links.Check(s), firstError(s); got != want {
				t.Fatalf("Check(%+v) = %d, want %d", s, got, want)
			}
		}
	}
}

func TestP5_1EachLinkIsChecked(t *testing.T) {
	for _, s := range largerStates() {
		for i, l := range s.Links {
			for _, wrong := range []struct {
				l    api.Link
				want api.Errno
			}{
				{link(l.V, l.U, l.Weight, l.Label, l.Sign, l.Time), api.ErrNode}, {link(l.U, s.Nodes, l.Weight, l.Label, l.Sign, l.Time), api.ErrNode}, {link(l.U, l.U, l.Weight, l.Label, l.Sign, l.Time), api.ErrNode},
				{link(l.U, l.V, 1001, l.Label, l.Sign, l.Time), api.ErrRange}, {link(l.U, l.V, l.Weight, 16, l.Sign, l.Time), api.ErrRange}, {link(l.U, l.V, l.Weight, l.Label, 0, l.Time), api.ErrRange},
				{link(l.U, l.V, l.Weight, l.Label, l.Sign, 1<<20+1), api.ErrTime},
			} {
				checkCheck(t, state(s.Nodes, slices.Replace(slices.Clone(s.Links), i, i+1, wrong.l)...), wrong.want)
			}
			checkCheck(t, state(s.Nodes, slices.Insert(slices.Clone(s.Links), i, l)...), api.ErrOrder)
			if i > 0 {
				checkCheck(t, state(s.Nodes, slices.Replace(slices.Clone(s.Links), i-1, i+1, l, s.Links[i-1])...), api.ErrOrder)
			}
		}
	}
}

func TestP5_1TheOrderOfLinksIsThatOfTheirEdgesAlone(t *testing.T) {
	for _, c := range []struct {
		s    api.State
		want api.Errno
	}{
		{state(4, link(0, 1, 9, 9, 1, 9), link(0, 2, 1, 0, -1, 0)), api.OK},
		{state(4, link(0, 3, 9, 9, 1, 9), link(1, 2, 1, 0, -1, 0)), api.OK},
		{state(4, link(0, 1, 1, 0, -1, 0), link(0, 1, 9, 9, 1, 9)), api.ErrOrder},
		{state(4, link(0, 2, 1, 0, -1, 0), link(0, 1, 9, 9, 1, 9)), api.ErrOrder},
		{state(4, link(1, 2, 1, 0, -1, 0), link(0, 3, 9, 9, 1, 9)), api.ErrOrder},
		{state(4, link(0, 1, 1, 0, 1, 0), link(0, 1, 1, 0, 1, 1)), api.ErrOrder},
	} {
		checkCheck(t, c.s, c.want)
	}
}
