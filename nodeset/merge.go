package nodeset

import "cmp"

// merged goes through two sets side by side and returns those elements of one of them or of both that keep asks for.
func merged[T cmp.Ordered](a, b []T, keep func(inA, inB bool) bool) []T {
	var kept []T
	for len(a) > 0 || len(b) > 0 {
		order := fronts(a, b)
		inA, inB := order <= 0, order >= 0
		var least T
		if inA {
			least, a = a[0], a[1:]
		}
		if inB {
			least, b = b[0], b[1:]
		}
		if keep(inA, inB) {
			kept = append(kept, least)
		}
	}
	return kept
}

// fronts compares the first elements of two sets that are not both empty. An empty set counts as the greater one, so
// that what is left of the other one is taken.
func fronts[T cmp.Ordered](a, b []T) int {
	switch {
	case len(a) == 0:
		return 1
	case len(b) == 0:
		return -1
	}
	return cmp.Compare(a[0], b[0])
}
