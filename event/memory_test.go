package event_test

import (
	"bytes"
	"math"
	"slices"
	"strings"
	"testing"

	"cohesion/api"
	"cohesion/event"
	"cohesion/probe"
)

// What stands behind the ends of guarded lists, and what is written over results: neither occurs in a list.
var (
	untouchedEvent = api.Event{Kind: -77}
	spoiltEvent    = api.Event{Kind: -78}
)

const (
	untouchedByte = 177
	spoiltByte    = 178
)

func givenLists() [][]api.Event {
	lists := [][]api.Event{nil, {}, few(), few()[:1], validEvents()}
	for _, c := range invalidLists() {
		lists = append(lists, c.l)
	}
	return lists
}

func givenBytes() [][]byte {
	b := bytesOfAll(few())
	return [][]byte{nil, {}, b, b[:10], b[:15], bytesOfAll(validEvents()), make([]byte, 20), bytes.Repeat([]byte{1}, 30), append(bytes.Clone(b), 3, 0, 0, 0, 0, 0, 0, 0, 0, 1)}
}

// R2: neither by a call nor by a change of its result.
func TestArgumentsAreNotChanged(t *testing.T) {
	for _, given := range givenLists() {
		l := probe.Guarded(given, untouchedEvent)
		for _, e := range l {
			event.Check(e)
		}
		event.Print(l)
		b, _ := event.Encode(l)
		probe.Spoil(b, spoiltByte)
		if !probe.IsUnchanged(l, given, untouchedEvent) {
			t.Errorf("the events %+v are changed", given)
		}
	}
	for _, given := range givenBytes() {
		b := probe.Guarded(given, untouchedByte)
		l, _ := event.Decode(b)
		probe.Spoil(l, spoiltEvent)
		if !probe.IsUnchanged(b, given, untouchedByte) {
			t.Errorf("the bytes %v are changed", given)
		}
	}
}

// R2: a result neither follows later changes of the arguments nor those of another result.
func TestResultsAreNewMemory(t *testing.T) {
	for _, given := range givenLists() {
		l := slices.Clone(given)
		first, e := event.Encode(l)
		second, _ := event.Encode(l)
		before := bytes.Clone(first)
		probe.Spoil(l, spoiltEvent)
		probe.Spoil(second, spoiltByte)
		third, again := event.Encode(given)
		if !bytes.Equal(first, before) || !bytes.Equal(third, before) || again != e {
			t.Errorf("Encode(%+v) shares its result", given)
		}
	}
	for _, given := range givenBytes() {
		b := bytes.Clone(given)
		first, e := event.Decode(b)
		second, _ := event.Decode(b)
		before := slices.Clone(first)
		probe.Spoil(b, spoiltByte)
		probe.Spoil(second, spoiltEvent)
		third, again := event.Decode(given)
		if !slices.Equal(first, before) || !slices.Equal(third, before) || again != e {
			t.Errorf("Decode(%v) shares its result", given)
		}
	}
	for _, s := range []string{"", textOf(few()), textOf(few()) + "x"} {
		first, line, e := event.Parse(s)
		second, _, _ := event.Parse(s)
		before := slices.Clone(first)
		probe.Spoil(second, spoiltEvent)
		third, sameLine, again := event.Parse(s)
		if !slices.Equal(first, before) || !slices.Equal(third, before) || sameLine != line || again != e {
			t.Errorf("Parse(%q) shares its result", s)
		}
	}
}

// R2: a nil list and an empty one are equivalent.
func TestNilAndEmptyListsAreEquivalent(t *testing.T) {
	for _, l := range [][]api.Event{nil, {}, few()[:0]} {
		checkEncode(t, l, nil, api.OK)
		checkPrint(t, l, "", api.OK)
	}
	for _, b := range [][]byte{nil, {}, bytesOfAll(few())[:0]} {
		checkDecode(t, b, nil, api.OK)
	}
}

// R1: no arguments make a function panic.
func TestNothingPanics(t *testing.T) {
	numbers := []int{math.MinInt, math.MinInt + 1, -1, 0, 1, 2, 3, math.MaxInt}
	for _, f := range probe.Lists(numbers, 5) {
		f = append(f, 0, 0, 0, 0, 0)
		e := api.Event{Kind: f[0], Time: f[1], U: f[2], V: f[3], Weight: f[4], Label: f[1], Sign: f[2]}
		event.Check(e)
		event.Encode([]api.Event{e, e})
		event.Print([]api.Event{e, e})
	}
	for _, b := range probe.Lists([]byte{0, 1, 2, 3, 255}, 5) {
		event.Decode(b)
		event.Decode(append(slices.Repeat(b, 2), make([]byte, 20-2*len(b))...))
		event.Parse(string(b))
	}
	for _, words := range probe.Lists([]string{"set", "cut", "leave", "1", "-", "", "\n"}, 6) {
		event.Parse(strings.Join(words, " "))
	}
}
