package probe_test

import (
	"slices"
	"testing"

	"cohesion/probe"
)

// numbers are both arguments and results of the calls that are watched here.
type numbers []int

func (l numbers) Guarded() numbers                 { return probe.Guarded(l, -77) }
func (l numbers) AreUnchanged(before numbers) bool { return probe.IsUnchanged(l, before, -77) }
func (l numbers) Spoil()                           { probe.Spoil(l, -79) }
func (l numbers) Clone() numbers                   { return slices.Clone(l) }
func (l numbers) Equals(other numbers) bool        { return slices.Equal(l, other) }

func TestFaultsOfCallsAreFound(t *testing.T) {
	kept := make(numbers, 3)
	// nth returns a call that does one thing the nth time, and otherwise nothing wrong.
	nth := func(n int, f func(l numbers) numbers) func(l numbers) numbers {
		return func(l numbers) numbers {
			if n--; n == 0 {
				return f(l)
			}
			return slices.Clone(l)
		}
	}
	itself := func(l numbers) numbers { return l }
	for _, c := range []struct {
		call func(l numbers) numbers
		want string
	}{
		{func(l numbers) numbers { return slices.Clone(l) }, ""},
		{func(l numbers) numbers { return nil }, ""},
		{func(l numbers) numbers { slices.Reverse(l); return nil }, "changes an argument"},
		{func(l numbers) numbers { return slices.Clone(append(l, 7)) }, "changes an argument"},
		{itself, "shares its result with an argument"},
		{nth(2, itself), "shares its result with an argument"},
		{func(l numbers) numbers { return l[3:] }, "shares its result with an argument"},
		{func(l numbers) numbers { copy(kept, l); return kept }, "shares its result with another one"},
		{nth(1, itself), "lets its result follow an argument"},
		{nth(3, func(l numbers) numbers { return nil }), "returns something else at another time"},
	} {
		if got := probe.Fault(c.call, numbers{5, 3, 4}); got != c.want {
			t.Errorf("the fault is %q, not %q", got, c.want)
		}
	}
}
