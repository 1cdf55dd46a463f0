package event_test

import (
	"bytes"
	"slices"
	"testing"

	"cohesion/api"
	"cohesion/event"
	"cohesion/probe"
)

// checkThereAndBack asks for the consequences of a list of valid events.
func checkThereAndBack(t *testing.T, l []api.Event) {
	t.Helper()
	b, e := event.Encode(l)
	if e != api.OK || len(b) != 10*len(l) {
		t.Errorf("Encode(%+v) = %v, %d", l, b, e)
	}
	if got, e := event.Decode(b); e != api.OK || !slices.Equal(got, l) {
		t.Errorf("Decode of Encode(%+v) = %+v, %d", l, got, e)
	}
	s, e := event.Print(l)
	if got, line, parseError := event.Parse(s); e != api.OK || line != 0 || parseError != api.OK || !slices.Equal(got, l) {
		t.Errorf("Parse of Print(%+v) = %+v, %d, %d", l, got, line, parseError)
	}
}

func TestDecodeOfEncodeAndParseOfPrintAreTheEvents(t *testing.T) {
	all := validEvents()
	for _, e := range all {
		checkThereAndBack(t, []api.Event{e})
	}
	for _, l := range probe.Lists(few(), 4) {
		checkThereAndBack(t, l)
	}
	checkThereAndBack(t, all)
	checkThereAndBack(t, slices.Repeat([]api.Event{leave(0, 1), cut(1, 2, 3)}, api.MaxEvents/2))
}

// The bytes of events have one form only, so that the way back is one too.
func TestEncodeOfDecodeIsTheBytes(t *testing.T) {
	valid := 0
	for at := range bytesOfAll(few()) {
		for by := range 256 {
			b := bytesOfAll(few())
			b[at] = byte(by)
			l, e := event.Decode(b)
			if e != api.OK {
				continue
			}
			valid++
			if got, e := event.Encode(l); e != api.OK || !bytes.Equal(got, b) {
				t.Errorf("Encode of Decode(%v) = %v, %d", b, got, e)
			}
		}
	}
	if valid < 1000 {
		t.Errorf("only %d lists of bytes are valid", valid)
	}
}
