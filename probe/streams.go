package probe

import (
	"math"
	"slices"

	"cohesion/api"
)

// SetAt returns the event that a link is set, with attributes that do not matter.
func SetAt(time, u, v int) api.Event { return Set(time, u, v, 1, 0, 1) }

// LinkAt returns a link with attributes that do not matter.
func LinkAt(u, v, time int) api.Link { return Link(u, v, 1, 0, 1, time) }

// EachStream tries all streams of at most length events, each of them one of those that are given, at once or some time behind the
// one before it.
func EachStream(events []api.Event, length int, steps []int, try func(l []api.Event)) {
	var happenings []api.Event
	for _, e := range events {
		for _, step := range steps {
			e.Time = step
			happenings = append(happenings, e)
		}
	}
	for _, l := range Lists(happenings, length) {
		for i := range l[:max(1, len(l))-1] {
			l[i+1].Time += l[i].Time
		}
		try(l)
	}
}

// LongStream returns a number of events that happen to a number of nodes, with up to a number of times between two of them; most
// of them are sets, also of links that are there.
func LongStream(count, nodes, step int) []api.Event {
	var l []api.Event
	x, time := 7, 0
	for i := range count {
		x = (x*1103515245 + 12345) % (1 << 31)
		time += x >> 16 % (step + 1)
		u, v := x>>8%nodes, x>>14%nodes
		switch {
		case x>>20%40 == 0:
			l = append(l, Leave(time, u))
		case u == v:
			l = append(l, SetAt(time, u, (u+1)%nodes))
		case x>>20%6 == 0:
			l = append(l, Cut(time, u, v))
		default:
			l = append(l, Set(time, u, v, 1+i%1000, i%16, 1-i%2*2))
		}
	}
	return l
}

// LongStreams returns streams of several kinds, with the number of nodes they happen to.
func LongStreams() map[int][][]api.Event {
	return map[int][][]api.Event{
		2:  {LongStream(60, 2, 3)},
		5:  {LongStream(300, 5, 0), LongStream(300, 5, 1), LongStream(300, 5, 9), LongStream(200, 5, 5000)},
		20: {LongStream(600, 20, 2), LongStream(400, 20, 30)},
		64: {LongStream(300, 64, 1), LongStream(700, 64, 5)},
	}
}

// FlawedStream is a stream with an error, and the number of nodes that it happens to.
type FlawedStream struct {
	Nodes  int
	Events []api.Event
	Err    api.Errno // the first of its errors
}

// FlawedStreams returns streams with one error or several. In most of them 0 and 1 seem to be linked, so that a function that does
// not check them first would find something.
func FlawedStreams() []FlawedStream {
	return slices.Concat(streamsWithoutNodes(), streamsTooLong(), streamsOfNodesThatDoNotExist(), streamsWithWrongEvents(), streamsThatGoBack())
}

// streamsWithoutNodes have a number of nodes that no graph has.
func streamsWithoutNodes() []FlawedStream {
	var flawed []FlawedStream
	lists := [][]api.Event{nil, {SetAt(3, 0, 1)}, {{}}, {Leave(3, 0), Leave(2, 0)}, make([]api.Event, api.MaxEvents+1)}
	for _, nodes := range []int{math.MinInt, -1 << 32, -64, -2, -1, 65, 66, 256, 1 << 32, math.MaxInt} {
		for _, l := range lists {
			flawed = append(flawed, FlawedStream{nodes, l, api.ErrRange})
		}
	}
	return flawed
}

// streamsTooLong have more events than there may be, or as many with a wrong one among them.
func streamsTooLong() []FlawedStream {
	most := slices.Repeat([]api.Event{SetAt(3, 0, 1)}, api.MaxEvents)
	flawed := []FlawedStream{
		{2, make([]api.Event, api.MaxEvents+1), api.ErrLimit}, {0, make([]api.Event, api.MaxEvents+1), api.ErrLimit}, {2, slices.Repeat(most, 3), api.ErrLimit},
		{2, make([]api.Event, api.MaxEvents), api.ErrKind}, {0, most, api.ErrNode}, {1, most, api.ErrNode},
	}
	for _, c := range []WrongEvent{{SetAt(3, 0, 1), api.OK}, {Leave(9, 1), api.OK}, {api.Event{}, api.ErrKind}, {SetAt(2, 0, 1), api.ErrTime}, {Leave(3, 2), api.ErrNode}} {
		flawed = append(flawed, FlawedStream{2, append(slices.Clone(most), c.Event), api.ErrLimit})
		if c.Err != api.OK {
			flawed = append(flawed, FlawedStream{2, append(slices.Clone(most[1:]), c.Event), c.Err})
		}
	}
	return flawed
}

// streamsOfNodesThatDoNotExist are all streams of one event that would be valid if there were more nodes.
func streamsOfNodesThatDoNotExist() []FlawedStream {
	var flawed []FlawedStream
	for nodes := range api.MaxNodes {
		for x := nodes; x < api.MaxNodes; x++ {
			y := 0 // the other end, which exists if there is a node
			if x == 0 {
				y = 1
			}
			for _, e := range []api.Event{SetAt(4, x, y), SetAt(4, y, x), Cut(4, x, y), Cut(4, y, x), Leave(4, x)} {
				flawed = append(flawed, FlawedStream{nodes, []api.Event{e}, api.ErrNode})
			}
		}
	}
	return flawed
}

// GoodStream returns a stream that four nodes are enough for.
func GoodStream() []api.Event {
	return []api.Event{SetAt(1, 0, 1), Cut(2, 2, 0), SetAt(2, 2, 1), Leave(5, 3), SetAt(7, 3, 1), Leave(9, 1)}
}

// streamsWithWrongEvents are a good one with one wrong event or two: the first one decides.
func streamsWithWrongEvents() []FlawedStream {
	wrong := WrongEvents()
	for _, e := range []api.Event{SetAt(9, 0, 4), SetAt(9, 4, 0), Cut(9, 63, 1), Leave(9, 4), SetAt(0, 4, 0), Leave(0, 4)} {
		wrong = append(wrong, WrongEvent{e, api.ErrNode})
	}
	var flawed []FlawedStream
	for _, first := range wrong {
		for at := range len(GoodStream()) + 1 {
			l := slices.Insert(GoodStream(), at, first.Event)
			flawed = append(flawed, FlawedStream{4, l, first.Err}, FlawedStream{4, slices.Insert(slices.Clone(l), at+1, Leave(0, 1), api.Event{}), first.Err})
			for _, second := range wrong {
				flawed = append(flawed, FlawedStream{4, append(slices.Clone(l), second.Event), first.Err})
			}
		}
	}
	return flawed
}

// streamsThatGoBack have an event whose time is less than the one before it; this is asked of an event without other errors only.
func streamsThatGoBack() []FlawedStream {
	flawed := []FlawedStream{{4, []api.Event{Leave(1<<20, 1), Leave(1<<20-1, 1)}, api.ErrTime}}
	good := GoodStream()
	for at := 1; at <= len(good); at++ {
		for _, e := range []api.Event{SetAt(good[at-1].Time-1, 0, 1), Cut(0, 1, 2), Leave(good[at-1].Time-1, 2)} {
			l := slices.Insert(slices.Clone(good), at, e)
			for _, more := range [][]api.Event{nil, {{}}, {Leave(9, 4)}} {
				flawed = append(flawed, FlawedStream{4, slices.Concat(l, more), api.ErrTime})
			}
		}
	}
	for _, c := range []WrongEvent{
		{api.Event{Time: 3}, api.ErrKind}, {Cut(3, 1, 1), api.ErrNode}, {Set(3, 1, 2, 0, 0, 1), api.ErrRange}, {SetAt(3, 1, 4), api.ErrNode}, {Leave(3, 63), api.ErrNode}, {Leave(3, 3), api.ErrTime}, {Cut(-1, 1, 4), api.ErrTime},
	} {
		flawed = append(flawed, FlawedStream{4, []api.Event{Leave(5, 1), c.Event}, c.Err})
	}
	return flawed
}
