// Package trees compares trees of any depth, which may even be parts of themselves.
package trees

// MaxLevels ends the way down a tree that is a part of itself. It is twice as many levels as the document speaks of.
const MaxLevels = 1 << 17

// Comparer knows how many comparisons of lists are open.
type Comparer struct{ level int }

// Each reports whether two lists have the same parts.
func Each[T any](c *Comparer, a, b []T, same func(a, b *T) bool) bool {
	if len(a) != len(b) || c.level == MaxLevels {
		return false
	}
	c.level++
	for i := range a {
		if !same(&a[i], &b[i]) {
			return false
		}
	}
	c.level--
	return true
}
