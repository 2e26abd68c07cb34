package block

import (
	"slices"
	"testing"
)

// P10.1. No tokens have steps of one symbol only, so that this is asked within.
func TestOneSymbolAlone(t *testing.T) {
	for _, c := range []struct{ many, want []int }{
		{[]int{0, 0, 5}, []int{1, 0, 5}}, {[]int{7, 0, 0}, []int{7, 1, 0}}, {[]int{0, 2, 3}, []int{0, 2, 3}}, {[]int{0, 1, 0}, []int{1, 1, 0}}, {[]int{4, 4, 4}, []int{4, 4, 4}},
	} {
		was := slices.Clone(c.many)
		if got := twoAtLeast(c.many); !slices.Equal(got, c.want) || !slices.Equal(c.many, was) {
			t.Errorf("%v: %v, not %v", was, got, c.want)
		}
	}
}
