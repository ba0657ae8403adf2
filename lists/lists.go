// Package lists transforms lists and chooses elements of them.
package lists

// Mapped returns what a function makes of each element.
func Mapped[A, B any](l []A, change func(A) B) []B {
	changed := make([]B, 0, len(l))
	for _, x := range l {
		changed = append(changed, change(x))
	}
	return changed
}

// Kept returns the elements for which a condition holds, in their order.
func Kept[A any](l []A, holds func(A) bool) []A {
	var kept []A
	for _, x := range l {
		if holds(x) {
			kept = append(kept, x)
		}
	}
	return kept
}
