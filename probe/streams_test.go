package probe_test

import (
	"fmt"
	"slices"
	"testing"

	"cohesion/api"
	"cohesion/probe"
)

func TestEachStreamIsTriedOnce(t *testing.T) {
	a, b := probe.Leave(0, 1), probe.SetAt(0, 2, 3)
	var got [][]api.Event
	probe.EachStream([]api.Event{a, b}, 2, []int{0, 2}, func(l []api.Event) { got = append(got, slices.Clone(l)) })
	at := func(e api.Event, time int) api.Event { e.Time = time; return e }
	want := [][]api.Event{nil}
	for _, first := range []api.Event{a, b} {
		for _, step := range []int{0, 2} {
			want = append(want, []api.Event{at(first, step)})
			for _, second := range []api.Event{a, b} {
				want = append(want, []api.Event{at(first, step), at(second, step)}, []api.Event{at(first, step), at(second, step+2)})
			}
		}
	}
	byText := func(l [][]api.Event) []string {
		var texts []string
		for _, stream := range l {
			texts = append(texts, fmt.Sprint(stream))
		}
		slices.Sort(texts)
		return texts
	}
	if !slices.Equal(byText(got), byText(want)) {
		t.Errorf("the streams are %v, want %v", got, want)
	}
}

func TestLongStreamsHaveAllKindsOfEventsInOrder(t *testing.T) {
	for nodes, streams := range probe.LongStreams() {
		for i, l := range streams {
			var kinds [4]int
			for k, e := range l {
				kinds[e.Kind]++
				if e.U < 0 || e.U >= nodes || e.V < 0 || e.V >= nodes || e.Kind != api.EvLeave && e.U == e.V || k > 0 && e.Time < l[k-1].Time {
					t.Errorf("the event %d of the stream %d of %d nodes is %+v", k, i, nodes, e)
				}
			}
			if slices.Min(kinds[1:]) == 0 || kinds[api.EvSet] < len(l)/2 {
				t.Errorf("the stream %d of %d nodes has %v events of each kind", i, nodes, kinds[1:])
			}
		}
	}
}

func TestFlawedStreamsAreOfAllKinds(t *testing.T) {
	seen := map[api.Errno]int{}
	for _, f := range probe.FlawedStreams() {
		seen[f.Err]++
	}
	for _, err := range []api.Errno{api.ErrRange, api.ErrLimit, api.ErrKind, api.ErrNode, api.ErrTime} {
		if seen[err] < 5 {
			t.Errorf("there are %d streams with the error %d", seen[err], err)
		}
	}
	if seen[api.OK] > 0 {
		t.Errorf("%d streams have no error", seen[api.OK])
	}
}
