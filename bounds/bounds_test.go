package bounds

import (
	"math"
	"testing"
)

func TestBounds(t *testing.T) {
	kinds := []struct {
		name        string
		is          func(int) bool
		least, most int
	}{
		{"Node", Node, 0, 3},
		{"Height", Height, 0, 3},
		{"Round", Round, 0, 5},
		{"Value", Value, 1, 9},
		{"Within(-1, 4)", func(n int) bool { return Within(n, -1, 4) }, -1, 4},
	}
	for _, k := range kinds {
		for n := k.least; n <= k.most; n++ {
			if !k.is(n) {
				t.Errorf("%s(%d) = false", k.name, n)
			}
		}
		for _, n := range []int{math.MinInt, k.least - 2, k.least - 1, k.most + 1, k.most + 2, math.MaxInt} {
			if k.is(n) {
				t.Errorf("%s(%d) = true", k.name, n)
			}
		}
	}
	if Within(0, 0, -1) || Within(-1, 0, -1) {
		t.Error("something is within no numbers")
	}
}
