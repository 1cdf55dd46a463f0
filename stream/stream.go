// Package stream checks streams of events, which happen one after the other, for the layers that go through them.
package stream

import (
	"cohesion/api"
	"cohesion/event"
)

// Check returns the first error of events that happen to so many nodes, one after the other: ErrRange (nodes is not from 0 to
// api.MaxNodes); ErrLimit (more than api.MaxEvents events); for each event that of event.Check, ErrNode (a node that does not
// exist), ErrTime (its time is less than the one before it).
func Check(nodes int, l []api.Event) api.Errno {
	switch {
	case nodes < 0 || nodes > api.MaxNodes:
		return api.ErrRange
	case len(l) > api.MaxEvents:
		return api.ErrLimit
	}
	latest := 0
	for _, e := range l {
		if err := event.Check(e); err != api.OK {
			return err
		}
		switch {
		case e.U >= nodes || e.V >= nodes:
			return api.ErrNode
		case e.Time < latest:
			return api.ErrTime
		}
		latest = e.Time
	}
	return api.OK
}
