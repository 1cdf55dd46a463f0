package event_test

import (
	"math"

	"cohesion/api"
	"cohesion/probe"
)

// Events are written without the package under test.
var set, cut, leave = probe.Set, probe.Cut, probe.Leave

// few is a list with each kind, each sign, and fields at their limits.
func few() []api.Event {
	return []api.Event{
		set(5, 0, 3, 10, 2, -1), cut(70000, 63, 1), leave(1<<20, 7), set(0, 2, 1, 1000, 15, 1), leave(0, 0), cut(1<<20, 0, 63),
	}
}

// fields are values of the fields of events of a kind, those that are right and those that are wrong: each field by itself is
// at its limits and beyond, in most of them.
type fields struct {
	times                              []int
	wrongTimes                         []int
	nodes, wrongNodes                  [][2]int // U and V
	attributes, wrongAttributes        [][3]int // Weight, Label and Sign
	kindsWithThem, kindsThatAreNothing []int
}

func fieldsOfKinds() []fields {
	times, wrongTimes := []int{0, 1, 5, 255, 256, 65535, 65536, 66051, 1048575, 1048576}, []int{math.MinInt, -1048576, -1, 1048577, 1 << 24, math.MaxInt}
	pairs := [][2]int{{0, 1}, {1, 0}, {0, 63}, {63, 0}, {62, 63}, {31, 7}}
	wrongPairs := [][2]int{
		{0, 0}, {5, 5}, {63, 63}, {0, 64}, {64, 0}, {0, -1}, {-1, 0}, {64, 64}, {-1, 64}, {256, 0}, {1, 257},
		{math.MinInt, 0}, {0, math.MinInt}, {math.MaxInt, 0}, {0, math.MaxInt},
	}
	none := [][3]int{{0, 0, 0}}
	some := [][3]int{
		{1, 0, 0}, {0, 1, 0}, {0, 0, 1}, {0, 0, -1}, {-1, 0, 0}, {0, -1, 0}, {1, 0, 1}, {1000, 15, -1}, {65536, 0, 0}, {0, 256, 0},
		{math.MinInt, 0, 0}, {0, math.MinInt, 0}, {0, 0, math.MinInt}, {math.MaxInt, 0, 0}, {0, math.MaxInt, 0}, {0, 0, math.MaxInt},
	}
	nothing := []int{math.MinInt, -1, 0, 4, 5, 257, 258, 259, math.MaxInt}
	return []fields{
		{
			times, wrongTimes, pairs, wrongPairs,
			[][3]int{{1, 0, 1}, {1, 0, -1}, {1, 15, 1}, {1, 15, -1}, {255, 1, 1}, {256, 1, -1}, {500, 7, 1}, {1000, 0, 1}, {1000, 15, -1}},
			[][3]int{
				{0, 0, 0}, {0, 0, 1}, {-1, 0, 1}, {1001, 0, 1}, {65537, 0, 1}, {1, -1, 1}, {1, 16, -1}, {1, 256, 1}, {1, 0, 0}, {1, 0, 2}, {1, 0, -2}, {0, 16, 2},
				{math.MinInt, 0, 1}, {1, math.MinInt, 1}, {1, 0, math.MinInt}, {math.MaxInt, 0, 1}, {1, math.MaxInt, 1}, {1, 0, math.MaxInt},
			},
			[]int{api.EvSet}, nothing,
		},
		{times, wrongTimes, pairs, wrongPairs, none, some, []int{api.EvCut}, nothing},
		{
			times, wrongTimes,
			[][2]int{{0, 0}, {1, 0}, {7, 0}, {63, 0}},
			[][2]int{{0, 1}, {5, 5}, {63, 1}, {0, 63}, {7, -1}, {64, 0}, {-1, 0}, {256, 0}, {0, 256}, {math.MinInt, 0}, {0, math.MinInt}, {math.MaxInt, 0}, {0, math.MaxInt}},
			none, some, []int{api.EvLeave}, nothing,
		},
	}
}

// checked is an event, and the error that it has.
type checked struct {
	e    api.Event
	want api.Errno
}

// eachChecked goes through the products of all fields, with the first error of each event.
func eachChecked(try func(c checked)) {
	for _, f := range fieldsOfKinds() {
		values(f.kindsWithThem, f.kindsThatAreNothing, func(kind int, isKind bool) {
			values(f.times, f.wrongTimes, func(time int, isTime bool) {
				values(f.nodes, f.wrongNodes, func(nodes [2]int, areNodes bool) {
					values(f.attributes, f.wrongAttributes, func(a [3]int, areAttributes bool) {
						e := api.Event{Kind: kind, Time: time, U: nodes[0], V: nodes[1], Weight: a[0], Label: a[1], Sign: a[2]}
						try(checked{e, firstWrong(isKind, isTime, areNodes, areAttributes)})
					})
				})
			})
		})
	}
}

func values[T any](right, wrong []T, try func(x T, isRight bool)) {
	for _, x := range right {
		try(x, true)
	}
	for _, x := range wrong {
		try(x, false)
	}
}

func firstWrong(isKind, isTime, areNodes, areAttributes bool) api.Errno {
	switch false {
	case isKind:
		return api.ErrKind
	case isTime:
		return api.ErrTime
	case areNodes:
		return api.ErrNode
	case areAttributes:
		return api.ErrRange
	}
	return api.OK
}

// validEvents are all products of the fields that are right.
func validEvents() []api.Event {
	var l []api.Event
	eachChecked(func(c checked) {
		if c.want == api.OK {
			l = append(l, c.e)
		}
	})
	return l
}

// invalid are lists with one wrong event or several, and the error of the first one.
type invalid struct {
	l    []api.Event
	want api.Errno
}

func invalidLists() []invalid {
	good := few()
	noKind, noTime, noNode, noRange := api.Event{Kind: 4, Time: -1}, cut(-1, 3, 3), set(0, 3, 3, 0, 0, 0), set(0, 1, 3, 0, 0, 0)
	return []invalid{
		{[]api.Event{{}}, api.ErrKind}, {[]api.Event{noTime}, api.ErrTime}, {[]api.Event{noNode}, api.ErrNode}, {[]api.Event{noRange}, api.ErrRange},
		{append(few(), noKind), api.ErrKind}, {append([]api.Event{noRange}, good...), api.ErrRange},
		{append(few(), noRange, noKind, noTime), api.ErrRange}, {append(few(), noNode, noKind), api.ErrNode}, {append(few(), noTime, noKind), api.ErrTime},
		{append(few(), noKind, noRange), api.ErrKind}, {append(append(few(), noRange), few()...), api.ErrRange},
		{append([]api.Event{noNode, noTime}, good...), api.ErrNode}, {append([]api.Event{noTime, noNode}, good...), api.ErrTime},
	}
}
