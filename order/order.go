// Package order tells orders in the way that sorting and searching ask for. It is what the layers that sort share.
package order

// By answers the comparison that less makes: below 0 where the first one is less, above 0 where the second one is, else 0.
func By[T any](less func(a, b T) bool) func(a, b T) int {
	return func(a, b T) int {
		if less(a, b) {
			return -1
		}
		if less(b, a) {
			return 1
		}
		return 0
	}
}
