// Package same asks what is the same. How two things are held against each other is told by whoever asks.
package same

import "slices"

// Lists tells whether two lists have the same things in the same places. A list without elements is the same as none.
func Lists[T any](a, b []T, how func(a, b T) bool) bool {
	if len(a) != len(b) {
		return false
	}
	for i := range a {
		if !how(a[i], b[i]) {
			return false
		}
	}
	return true
}

// Firsts keeps, of things that are the same, the first one, in a list of its own.
func Firsts[T any](l []T, how func(a, b T) bool) []T {
	var kept []T
	for _, x := range l {
		if !slices.ContainsFunc(kept, func(y T) bool { return how(y, x) }) {
			kept = append(kept, x)
		}
	}
	return kept
}
