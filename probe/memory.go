package probe

// Arguments is all the memory that a call is given.
type Arguments[A any] interface {
	// Guarded returns the same arguments, with each list guarded.
	Guarded() A
	// AreUnchanged reports whether guarded arguments are as they were before, and also what is behind their lists.
	AreUnchanged(before A) bool
	// Spoil changes all of the memory.
	Spoil()
}

// Result is all that a call returns.
type Result[R any] interface {
	Clone() R
	Equals(other R) bool
	// Spoil changes all of the memory that the result gives access to.
	Spoil()
}

// Fault tells what a call does that rule R2 does not permit; the empty text if it does nothing of it.
func Fault[A Arguments[A], R Result[R]](call func(A) R, given A) string {
	guarded := given.Guarded()
	got := call(guarded)
	before := got.Clone()
	if !guarded.AreUnchanged(given) {
		return "changes an argument"
	}
	other := call(guarded)
	other.Spoil()
	switch {
	case !guarded.AreUnchanged(given):
		return "shares its result with an argument"
	case !got.Equals(before):
		return "shares its result with another one"
	}
	guarded.Spoil()
	switch {
	case !got.Equals(before):
		return "lets its result follow an argument"
	case !call(given).Equals(before):
		return "returns something else at another time"
	}
	return ""
}
