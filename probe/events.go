package probe

import (
	"math"

	"cohesion/api"
)

// Set returns the event that a link is set, valid or not.
func Set(time, u, v, weight, label, sign int) api.Event {
	return api.Event{Kind: api.EvSet, Time: time, U: u, V: v, Weight: weight, Label: label, Sign: sign}
}

// Cut returns the event that a link is cut, valid or not.
func Cut(time, u, v int) api.Event {
	return api.Event{Kind: api.EvCut, Time: time, U: u, V: v}
}

// Leave returns the event that a node leaves, valid or not.
func Leave(time, u int) api.Event {
	return api.Event{Kind: api.EvLeave, Time: time, U: u}
}

// WrongEvent is an event that is not valid, with the first of its errors.
type WrongEvent struct {
	Event api.Event
	Err   api.Errno
}

// WrongEvents returns events with one error or several.
func WrongEvents() []WrongEvent {
	return []WrongEvent{
		{api.Event{}, api.ErrKind}, {api.Event{Kind: 4, Time: -1, U: 99, Weight: 1}, api.ErrKind}, {api.Event{Kind: -1, U: 0, V: 1, Weight: 1, Sign: 1}, api.ErrKind},
		{Set(-1, 0, 1, 1, 0, 1), api.ErrTime}, {Cut(1<<20+1, 0, 1), api.ErrTime}, {Leave(-1, 0), api.ErrTime}, {Cut(-1, 99, 1), api.ErrTime}, {Set(math.MaxInt, 1, 1, 0, 0, 0), api.ErrTime},
		{Set(0, 1, 1, 1, 0, 1), api.ErrNode}, {Cut(0, 1, 1), api.ErrNode}, {Cut(0, -1, 1), api.ErrNode}, {Cut(0, 0, -1), api.ErrNode}, {Leave(0, -1), api.ErrNode}, {Leave(0, 64), api.ErrNode},
		{Set(0, 64, 1, 1, 0, 1), api.ErrNode}, {Set(0, 1, 64, 0, 0, 1), api.ErrNode}, {api.Event{Kind: api.EvLeave, U: 1, V: 2}, api.ErrNode},
		{Set(0, 0, 1, 0, 0, 1), api.ErrRange}, {Set(0, 0, 1, 1001, 0, 1), api.ErrRange}, {Set(0, 1, 0, 1, 16, 1), api.ErrRange}, {Set(0, 1, 0, 1, -1, 1), api.ErrRange}, {Set(0, 0, 1, 1, 0, 0), api.ErrRange},
		{Set(0, 0, 1, 1, 0, 2), api.ErrRange}, {api.Event{Kind: api.EvCut, V: 1, Sign: 1}, api.ErrRange}, {api.Event{Kind: api.EvLeave, Weight: 1}, api.ErrRange}, {Set(0, 63, 62, 0, 0, 1), api.ErrRange},
	}
}
