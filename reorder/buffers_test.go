package reorder_test

import (
	"fmt"
	"math"
	"slices"

	"cohesion/api"
	"cohesion/event"
	"cohesion/probe"
)

// Events are written without the package under test.
var set, cut, leave = probe.Set, probe.Cut, probe.Leave

// buffer returns the struct alone, valid or not.
func buffer(bound, latest, mark int, waiting ...api.Event) api.Buffer {
	return api.Buffer{Bound: bound, Latest: latest, Mark: mark, Waiting: waiting}
}

// text tells what is in a buffer, of many events the first ones.
func text(b api.Buffer) string {
	return fmt.Sprintf("bound %d, latest %d, mark %d, %s", b.Bound, b.Latest, b.Mark, list(b.Waiting))
}

// list tells which events there are, of many the first ones.
func list(l []api.Event) string {
	return fmt.Sprintf("%d events %v", len(l), l[:min(len(l), 8)])
}

// same reports whether buffers are equal; R2: nil and empty lists are.
func same(a, b api.Buffer) bool {
	return a.Bound == b.Bound && a.Latest == b.Latest && a.Mark == b.Mark && slices.Equal(a.Waiting, b.Waiting)
}

// numbered returns an event at a time, which is valid if the time is right: no two numbers up to 100000 have the same one.
func numbered(time, number int) api.Event {
	switch {
	case number < 192 && number%3 == 1:
		return cut(time, number%64, (number+1)%64)
	case number < 192 && number%3 == 2:
		return leave(time, number/3)
	}
	return set(time, 1+number%63, 0, 1+number%1000, number%16, 1-number%2*2)
}

// eventsAt returns events at these times, told apart by where they stand.
func eventsAt(times ...int) []api.Event {
	var l []api.Event
	for i, time := range times {
		l = append(l, numbered(time, i))
	}
	return l
}

// isValid is Valid by the definition; the order of events is asked for of each pair.
func isValid(b api.Buffer) bool {
	valid := 0 <= b.Bound && b.Bound <= 1048576
	valid = valid && -1 <= b.Latest && b.Latest <= 1048576
	valid = valid && -1 <= b.Mark && b.Mark <= 1048576
	valid = valid && b.Mark <= b.Latest
	valid = valid && len(b.Waiting) <= 4096
	for i, e := range b.Waiting {
		valid = valid && event.Check(e) == api.OK && b.Mark+1 <= e.Time && e.Time <= b.Latest
		for _, before := range b.Waiting[:i] {
			valid = valid && before.Time <= e.Time
		}
	}
	return valid
}

// pushed is Push by its definition, of a buffer of which it is known whether it is valid: lists are divided by looking at each
// event, in whatever order they are.
func pushed(b api.Buffer, isValid bool, e api.Event) (api.Buffer, []api.Event, api.Errno) {
	err := event.Check(e)
	switch {
	case !isValid:
		return b, nil, api.ErrForm
	case err != api.OK:
		return b, nil, err
	case e.Time <= b.Mark:
		return b, nil, api.ErrLate
	case len(b.Waiting) >= 4096:
		return b, nil, api.ErrLimit
	}
	before, behind := divided(b.Waiting, e.Time)
	waiting := slices.Concat(before, []api.Event{e}, behind)
	if e.Time > b.Latest {
		b.Latest = e.Time
	}
	limit := b.Latest - b.Bound - 1
	released, kept := divided(waiting, limit)
	if b.Waiting = kept; limit > b.Mark {
		b.Mark = limit
	}
	return b, released, api.OK
}

// divided returns the events whose time is at most the given one, and the others.
func divided(l []api.Event, time int) (upTo, later []api.Event) {
	for _, e := range l {
		if e.Time <= time {
			upTo = append(upTo, e)
		} else {
			later = append(later, e)
		}
	}
	return upTo, later
}

// flushed is Flush by its definition.
func flushed(b api.Buffer, isValid bool) (api.Buffer, []api.Event, api.Errno) {
	if !isValid {
		return api.Buffer{}, nil, api.ErrForm
	}
	return buffer(b.Bound, b.Latest, b.Latest), b.Waiting, api.OK
}

// sorted is Sort by its definition; every buffer that comes from an opened one is valid.
func sorted(bound int, l []api.Event) (all []api.Event, late int, err api.Errno) {
	if bound < 0 || bound > 1048576 {
		return nil, 0, api.ErrRange
	}
	b := buffer(bound, -1, -1)
	var released []api.Event
	for _, e := range l {
		b, released, err = pushed(b, true, e)
		if err == api.ErrLate {
			late++
		} else if err != api.OK {
			return nil, 0, err
		}
		all = append(all, released...)
	}
	_, released, _ = flushed(b, true)
	return append(all, released...), late, api.OK
}

// buffersOf are all buffers with these numbers and with at most a number of waiting events at these times.
func buffersOf(bounds, latests, marks, times []int, length int) []api.Buffer {
	var buffers []api.Buffer
	for _, bound := range bounds {
		for _, latest := range latests {
			for _, mark := range marks {
				for _, l := range probe.Lists(times, length) {
					buffers = append(buffers, buffer(bound, latest, mark, eventsAt(l...)...))
				}
			}
		}
	}
	return buffers
}

// smallBuffers are all buffers with small numbers, valid or not.
func smallBuffers() []api.Buffer {
	return buffersOf([]int{-1, 0, 1, 2, 3}, []int{-2, -1, 0, 1, 2, 3}, []int{-2, -1, 0, 1, 2, 3}, []int{-1, 0, 1, 2, 3}, 3)
}

// lastBuffers are buffers with numbers around MaxTime, valid or not.
func lastBuffers() []api.Buffer {
	around := []int{1<<20 - 1, 1 << 20, 1<<20 + 1}
	return slices.Concat(
		buffersOf(append(around, 0, 1), around, append(around, 1<<20-2, -1), append(around, 0), 2),
		buffersOf(around, []int{-1, 0, 1}, []int{-1, 0, 1}, []int{0, 1}, 1),
	)
}

// waitingFor returns a valid buffer with a number of waiting events, at most three at each time from 10 on, and the mark at 9.
func waitingFor(bound, count int) api.Buffer {
	b := buffer(bound, 10+count/3, 9)
	for i := range count {
		b.Waiting = append(b.Waiting, numbered(10+i/3, i))
	}
	return b
}

// largerBuffers are valid buffers with more events, up to the most there are, as they come from Push and as they do not.
func largerBuffers() []api.Buffer {
	return []api.Buffer{
		waitingFor(1<<20, 20), waitingFor(7, 20), waitingFor(0, 20), waitingFor(100, 300), waitingFor(13, 300), waitingFor(1365, 4095), waitingFor(1366, 4096), waitingFor(0, 4096),
		buffer(1000, 1<<20, 1<<20-1001, eventsAt(1<<20-1000, 1<<20-1000, 1<<20-600, 1<<20-1, 1<<20, 1<<20, 1<<20)...),
		buffer(1<<20, 1<<20, -1, eventsAt(0, 0, 1, 77, 77, 65535, 1<<20)...), buffer(0, 0, 0), buffer(5, 3, -1, eventsAt(slices.Repeat([]int{3}, 50)...)...),
	}
}

// flawedBuffers are buffers that are nearly valid, and those with numbers that go over the ends of int.
func flawedBuffers() []api.Buffer {
	good := cut(7, 1, 2)
	buffers := []api.Buffer{
		buffer(-1, 9, 5, good), buffer(1<<20+1, 9, 5, good), buffer(math.MinInt, 9, 5, good), buffer(math.MaxInt, 9, 5, good),
		buffer(3, 1<<20+1, 5, good), buffer(3, math.MaxInt, 5, good), buffer(3, -2, -2), buffer(3, -2, -1), buffer(3, math.MinInt, math.MinInt, good), buffer(3, -1, -2), buffer(3, 9, -2, good), buffer(3, 9, math.MinInt, good),
		buffer(3, 9, 10), buffer(3, 9, 10, good), buffer(3, 9, math.MaxInt, good), buffer(3, math.MaxInt, math.MaxInt, good), buffer(math.MaxInt, math.MinInt, math.MaxInt, good), buffer(3, 1<<20+1, 1<<20+1),
		buffer(3, 9, 7, good), buffer(3, 9, 8, good), buffer(3, 6, 5, good), buffer(3, 9, 5, good, cut(6, 2, 1)), buffer(3, 9, 5, cut(9, 1, 2), good), buffer(3, 9, 5, good, cut(10, 1, 2)), buffer(3, 9, 5, good, cut(8, 1, 2), good),
		waitingFor(1<<20, 4097), waitingFor(0, 5000),
	}
	for _, wrong := range wrongEvents() {
		buffers = append(buffers, buffer(3, 9, -1, wrong), buffer(3, 9, -1, cut(0, 1, 2), wrong), buffer(3, 9, -1, wrong, cut(9, 1, 2)))
	}
	return buffers
}

// wrongEvents are events that are not valid.
func wrongEvents() []api.Event {
	return append(wrongAt(7), api.Event{}, cut(-1, 1, 2), cut(1<<20+1, 1, 2), leave(math.MinInt, 0), set(math.MaxInt, 1, 2, 1, 0, 1), cut(-1, 2, 2))
}

// wrongAt are events that are not valid, but for their time.
func wrongAt(time int) []api.Event {
	return []api.Event{
		{Time: time, V: 1}, {Kind: 4, Time: time}, {Kind: -1, Time: time},
		cut(time, 1, 1), cut(time, 64, 1), cut(time, 1, -1), leave(time, 64), leave(time, -1), {Kind: api.EvLeave, Time: time, U: 1, V: 2}, set(time, 2, 2, 0, 0, 0),
		set(time, 1, 2, 0, 0, 1), set(time, 1, 2, 1001, 0, 1), set(time, 1, 2, 1, 16, 1), set(time, 1, 2, 1, -1, 1), set(time, 1, 2, 1, 0, 0), set(time, 1, 2, 1, 0, 2), {Kind: api.EvCut, Time: time, V: 1, Sign: 1}, {Kind: api.EvLeave, Time: time, Label: 1},
	}
}
