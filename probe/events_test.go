package probe_test

import (
	"testing"

	"cohesion/api"
	"cohesion/probe"
)

func TestEventsAreWhatTheirWordsSay(t *testing.T) {
	for _, c := range []struct{ got, want api.Event }{
		{probe.Set(1, 2, 3, 4, 5, 6), api.Event{Kind: 1, Time: 1, U: 2, V: 3, Weight: 4, Label: 5, Sign: 6}},
		{probe.Cut(1, 2, 3), api.Event{Kind: 2, Time: 1, U: 2, V: 3}},
		{probe.Leave(1, 2), api.Event{Kind: 3, Time: 1, U: 2}},
	} {
		if c.got != c.want {
			t.Errorf("%+v is not %+v", c.got, c.want)
		}
	}
}
