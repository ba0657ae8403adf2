// Package lists transforms lists.
package lists

// Mapped returns what a function makes of each element.
func Mapped[A, B any](l []A, change func(A) B) []B {
	changed := make([]B, 0, len(l))
	for _, x := range l {
		changed = append(changed, change(x))
	}
	return changed
}
