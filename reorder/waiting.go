package reorder

import (
	"cmp"
	"slices"

	"cohesion/api"
	"cohesion/event"
)

// hasItsNumbers reports whether bound, latest time and mark are in their ranges.
func hasItsNumbers(b api.Buffer) bool {
	return 0 <= b.Bound && b.Bound <= api.MaxTime &&
		-1 <= b.Mark && b.Mark <= b.Latest && b.Latest <= api.MaxTime
}

// hasItsEvents reports whether the waiting events are valid, later than the mark, not later than the latest time, and in order.
func hasItsEvents(b api.Buffer) bool {
	least := b.Mark + 1
	for _, e := range b.Waiting {
		if event.Check(e) != api.OK || e.Time < least || e.Time > b.Latest {
			return false
		}
		least = e.Time
	}
	return true
}

// queue is a buffer whose waiting events are in memory of their own: what happens to it changes no argument.
type queue struct{ api.Buffer }

func queueOf(b api.Buffer) queue {
	b.Waiting = slices.Clone(b.Waiting)
	return queue{b}
}

// check returns the first reason for which an event cannot be pushed into a valid buffer.
func (q *queue) check(e api.Event) api.Errno {
	err := event.Check(e)
	switch {
	case err != api.OK:
		return err
	case e.Time <= q.Mark:
		return api.ErrLate
	case len(q.Waiting) >= api.MaxWait:
		return api.ErrLimit
	}
	return api.OK
}

// push lets an event wait that has no error, and returns the events that are released by it.
func (q *queue) push(e api.Event) []api.Event {
	q.Waiting = slices.Insert(q.Waiting, q.upTo(e.Time), e)
	q.Latest = max(q.Latest, e.Time)
	return q.release(q.Latest - q.Bound - 1)
}

// release takes all events up to a time out of those that wait, and returns them. The mark does not go back: a flush may have
// brought it beyond what the bound alone would release.
func (q *queue) release(time int) []api.Event {
	count := q.upTo(time)
	// The capacity ends where the events begin that go on waiting: an append to what is released does not write over them.
	released := q.Waiting[:count:count]
	q.Waiting = q.Waiting[count:]
	q.Mark = max(q.Mark, time)
	return released
}

// upTo returns how many of the waiting events have a time or an earlier one: they stand before all others.
func (q *queue) upTo(time int) int {
	count, _ := slices.BinarySearchFunc(q.Waiting, time+1, func(e api.Event, time int) int { return cmp.Compare(e.Time, time) })
	return count
}
