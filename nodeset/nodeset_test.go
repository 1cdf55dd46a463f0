package nodeset_test

import (
	"math"
	"slices"
	"testing"

	"cohesion/api"
	"cohesion/nodeset"
)

func TestP2_1ValidAcceptsSetsOfNodes(t *testing.T) {
	for _, c := range []struct {
		l     []int
		nodes int
		want  bool
	}{
		{[]int{0, 2}, 3, true}, {[]int{0, 1, 2}, 3, true}, {[]int{2}, 3, true}, {[]int{0}, 1, true},
		{[]int{0, 3}, 3, false}, {[]int{3}, 3, false}, {[]int{0}, 0, false}, {[]int{math.MaxInt}, 3, false},
		{[]int{-1}, 3, false}, {[]int{-1, 0}, 3, false}, {[]int{math.MinInt, 0}, 3, false},
		{[]int{2, 0}, 3, false}, {[]int{0, 2, 1}, 3, false}, {[]int{1, 1}, 3, false}, {[]int{0, 0, 1}, 3, false}, {[]int{0, 1, 1}, 3, false},
	} {
		if got := nodeset.Valid(c.l, c.nodes); got != c.want {
			t.Errorf("Valid(%v, %d) = %v", c.l, c.nodes, got)
		}
	}
}

func TestP2_1ValidOfNoNodesOrNegativelyMany(t *testing.T) {
	for _, nodes := range []int{math.MinInt, -5, -1, 0} {
		if !nodeset.Valid(nil, nodes) || !nodeset.Valid([]int{}, nodes) {
			t.Errorf("the empty set is not valid for %d nodes", nodes)
		}
		for _, x := range []int{math.MinInt, nodes - 1, nodes, -1, 0, math.MaxInt} {
			if nodeset.Valid([]int{x}, nodes) {
				t.Errorf("Valid([%d], %d) = true", x, nodes)
			}
		}
	}
}

// The nodes of networks are more than those of graphs, and their sets are valid too.
func TestP2_1ValidOfMoreNodesThanGraphsHave(t *testing.T) {
	for _, nodes := range []int{api.MaxNodes, api.MaxNodes + 1, 1000, api.MaxPoints} {
		if !nodeset.Valid([]int{0, nodes - 1}, nodes) || !nodeset.Valid(counting(0, nodes), nodes) {
			t.Errorf("a set of %d nodes is not valid", nodes)
		}
		if nodeset.Valid([]int{0, nodes}, nodes) || nodeset.Valid(counting(0, nodes+1), nodes) {
			t.Errorf("%d is a valid node of %d", nodes, nodes)
		}
	}
	if !nodeset.Valid([]int{math.MaxInt - 1}, math.MaxInt) || nodeset.Valid([]int{math.MaxInt}, math.MaxInt) {
		t.Error("the greatest number of nodes")
	}
}

func TestP2_1ValidIsItsDefinition(t *testing.T) {
	for _, l := range smallLists() {
		for nodes := -1; nodes <= 4; nodes++ {
			var fromNodes []int
			for x := range max(nodes, 0) {
				if occursIn(l, x) {
					fromNodes = append(fromNodes, x)
				}
			}
			if got, want := nodeset.Valid(l, nodes), slices.Equal(l, fromNodes); got != want {
				t.Errorf("Valid(%v, %d) = %v", l, nodes, got)
			}
		}
	}
}

func TestP2_1OfIsAscendingAndHasEachNumberOnce(t *testing.T) {
	for _, c := range []struct{ l, want []int }{
		{[]int{3, 1, 3}, []int{1, 3}}, {nil, nil}, {[]int{}, nil}, {[]int{5}, []int{5}}, {[]int{2, 2, 2}, []int{2}}, {[]int{0, 1, 2}, []int{0, 1, 2}},
		{[]int{1, -1, 0, -1}, []int{-1, 0, 1}}, {[]int{100, 10, 9}, []int{9, 10, 100}}, {[]int{math.MaxInt, math.MinInt, 0, math.MaxInt}, []int{math.MinInt, 0, math.MaxInt}},
	} {
		if got := nodeset.Of(c.l); !slices.Equal(got, c.want) {
			t.Errorf("Of(%v) = %v", c.l, got)
		}
	}
	for _, l := range append(smallLists(), variedLists()...) {
		if got, want := nodeset.Of(l), setBy(l, nil, func(inL, _ bool) bool { return inL }); !slices.Equal(got, want) {
			t.Errorf("Of(%v) = %v", l, got)
		}
	}
}

func TestP2_1RangeCountsFromZeroUpToTheLimit(t *testing.T) {
	for _, c := range []struct{ nodes, want int }{
		{math.MinInt, 0}, {-64, 0}, {-1, 0}, {0, 0}, {1, 1}, {3, 3}, {api.MaxNodes - 1, api.MaxNodes - 1},
		{api.MaxNodes, api.MaxNodes}, {api.MaxNodes + 1, api.MaxNodes}, {api.MaxPoints, api.MaxNodes}, {math.MaxInt, api.MaxNodes},
	} {
		if got := nodeset.Range(c.nodes); !slices.Equal(got, counting(0, c.want)) {
			t.Errorf("Range(%d) = %v", c.nodes, got)
		}
	}
}

func TestP2_2HasFindsANumberAnywhereInAList(t *testing.T) {
	for _, c := range []struct {
		l    []int
		x    int
		want bool
	}{
		{[]int{5, -3}, -3, true}, {[]int{5, -3}, 5, true}, {[]int{5, -3}, 3, false}, {nil, 0, false}, {[]int{}, 0, false},
		{[]int{9, 1, 5, 1}, 5, true}, {[]int{9, 1, 5, 1}, 4, false}, {[]int{math.MaxInt, math.MinInt}, math.MinInt, true}, {[]int{math.MaxInt}, math.MinInt, false},
	} {
		if got := nodeset.Has(c.l, c.x); got != c.want {
			t.Errorf("Has(%v, %d) = %v", c.l, c.x, got)
		}
	}
	for _, l := range smallLists() {
		for x := -2; x <= 3; x++ {
			if got := nodeset.Has(l, x); got != occursIn(l, x) {
				t.Errorf("Has(%v, %d) = %v", l, x, got)
			}
		}
	}
}

func TestP2_2UnionMeetAndMinusOfExamples(t *testing.T) {
	for _, c := range []struct{ a, b, union, meet, minus []int }{
		{nil, nil, nil, nil, nil},
		{[]int{}, nil, nil, nil, nil},
		{[]int{2, 1}, nil, []int{1, 2}, nil, []int{1, 2}},
		{nil, []int{2, 1}, []int{1, 2}, nil, nil},
		{[]int{5, 1}, []int{1, -2}, []int{-2, 1, 5}, []int{1}, []int{5}},
		{[]int{5, 1, 5, 7}, []int{7, 1, 2, 7}, []int{1, 2, 5, 7}, []int{1, 7}, []int{5}},
		{[]int{0, 1}, []int{2, 3}, []int{0, 1, 2, 3}, nil, []int{0, 1}},
		{[]int{2, 3}, []int{0, 1}, []int{0, 1, 2, 3}, nil, []int{2, 3}},
		{[]int{0, 2, 4}, []int{1, 3}, []int{0, 1, 2, 3, 4}, nil, []int{0, 2, 4}},
		{[]int{3, 3}, []int{3, 3, 3}, []int{3}, []int{3}, nil},
		{[]int{math.MaxInt, math.MinInt}, []int{math.MinInt, 0}, []int{math.MinInt, 0, math.MaxInt}, []int{math.MinInt}, []int{math.MaxInt}},
	} {
		for i, want := range [][]int{c.union, c.meet, c.minus} {
			o := operations()[i]
			if got := o.apply(c.a, c.b); !slices.Equal(got, want) {
				t.Errorf("%s(%v, %v) = %v", o.name, c.a, c.b, got)
			}
		}
	}
}

func TestP2_2UnionMeetAndMinusAreTheirDefinitions(t *testing.T) {
	for _, o := range operations() {
		for _, lists := range [][][]int{smallLists(), variedLists()} {
			for _, a := range lists {
				for _, b := range lists {
					if got, want := o.apply(a, b), setBy(a, b, o.rule); !slices.Equal(got, want) {
						t.Errorf("%s(%v, %v) = %v", o.name, a, b, got)
					}
				}
			}
		}
	}
}

func TestP2_2WithinAsksForEachNumber(t *testing.T) {
	for _, c := range []struct {
		a, b []int
		want bool
	}{
		{nil, nil, true}, {nil, []int{1}, true}, {[]int{}, []int{}, true}, {[]int{4}, nil, false}, {[]int{4}, []int{1}, false},
		{[]int{3, 1}, []int{1, 2, 3}, true}, {[]int{1, 2, 3}, []int{3, 1}, false}, {[]int{1, 1, 1}, []int{2, 1}, true}, {[]int{2, 1, 9}, []int{2, 1}, false},
		{[]int{-4, 70}, []int{70, 0, -4}, true}, {[]int{math.MinInt}, []int{math.MaxInt}, false}, {[]int{math.MinInt}, []int{math.MaxInt, math.MinInt}, true},
	} {
		if got := nodeset.Within(c.a, c.b); got != c.want {
			t.Errorf("Within(%v, %v) = %v", c.a, c.b, got)
		}
	}
	for _, a := range smallLists() {
		for _, b := range smallLists() {
			want := true
			for _, x := range a {
				want = want && occursIn(b, x)
			}
			if got := nodeset.Within(a, b); got != want {
				t.Errorf("Within(%v, %v) = %v", a, b, got)
			}
		}
	}
}

func TestP2_3CmpComparesElementByElement(t *testing.T) {
	for _, c := range []struct {
		a, b []int
		want int
	}{
		{[]int{0, 5}, []int{0, 5, 6}, -1}, {nil, []int{0}, -1}, {nil, []int{math.MinInt}, -1}, {[]int{}, []int{-1}, -1},
		{nil, nil, 0}, {nil, []int{}, 0}, {[]int{2, 2}, []int{2, 2}, 0}, {[]int{3, 1}, []int{3, 1}, 0},
		{[]int{0, 9}, []int{1}, -1}, {[]int{0, 5, 6}, []int{0, 6}, -1}, {[]int{-1}, []int{0}, -1}, {[]int{-1, 5}, []int{0}, -1}, {[]int{9}, []int{10}, -1},
		{[]int{1, 3}, []int{3, 1}, -1}, {[]int{1}, []int{1, 1}, -1}, {[]int{1, 1, 2}, []int{1, 2}, -1}, {[]int{1, 2, 7}, []int{2, 1}, -1},
		{[]int{math.MinInt}, []int{math.MaxInt}, -1}, {[]int{math.MinInt}, []int{1}, -1}, {[]int{-2}, []int{math.MaxInt}, -1},
		{[]int{0, math.MinInt, 9}, []int{0, math.MaxInt}, -1},
	} {
		if got := nodeset.Cmp(c.a, c.b); got != c.want {
			t.Errorf("Cmp(%v, %v) = %d", c.a, c.b, got)
		}
		if got := nodeset.Cmp(c.b, c.a); got != -c.want {
			t.Errorf("Cmp(%v, %v) = %d", c.b, c.a, got)
		}
	}
}

// In the order of the document a list is followed by those that it begins, and only then by what differs from it.
func TestP2_3CmpFollowsTheOrderOfAllLists(t *testing.T) {
	var ordered [][]int
	var visit func(l []int)
	visit = func(l []int) {
		ordered = append(ordered, slices.Clone(l))
		if len(l) == 3 {
			return
		}
		for _, x := range []int{math.MinInt, -1, 0, 10, math.MaxInt} {
			visit(append(slices.Clone(l), x))
		}
	}
	visit(nil)
	for i, a := range ordered {
		for j, b := range ordered {
			want := min(max(i-j, -1), 1)
			if got := nodeset.Cmp(a, b); got != want {
				t.Fatalf("Cmp(%v, %v) = %d", a, b, got)
			}
		}
	}
}
