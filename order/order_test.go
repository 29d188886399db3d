package order

import (
	"slices"
	"testing"
)

func TestBy(t *testing.T) {
	rising := By(func(a, b int) bool { return a < b })
	falling := By(func(a, b int) bool { return a > b })
	for _, x := range []struct{ a, b, want int }{
		{1, 2, -1}, {2, 1, 1}, {3, 3, 0}, {-1, 0, -1}, {0, 0, 0},
	} {
		if got := rising(x.a, x.b); got != x.want {
			t.Errorf("By rising, of %d and %d: %d", x.a, x.b, got)
		}
		if got := falling(x.a, x.b); got != -x.want {
			t.Errorf("By falling, of %d and %d: %d", x.a, x.b, got)
		}
	}
}

func TestBySorts(t *testing.T) {
	// What none is less than the other is alike, though it is not the same.
	tens := By(func(a, b int) bool { return a/10 < b/10 })
	sorted := []int{25, 3, 21, 17, 9, 11}
	slices.SortStableFunc(sorted, tens)
	if !slices.Equal(sorted, []int{3, 9, 17, 11, 25, 21}) {
		t.Errorf("By tens: %v", sorted)
	}
}
