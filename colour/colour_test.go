package colour

import (
	"math"
	"testing"

	"flipbook/api"
)

func TestHalf(t *testing.T) {
	for _, c := range []struct{ n, want int }{
		{0, 0}, {1, 0}, {2, 1}, {5, 2}, {255, 127},
		{-1, -1}, {-2, -1}, {-3, -2}, {-5, -3}, {-255, -128},
		{math.MaxInt, math.MaxInt / 2}, {math.MinInt, math.MinInt / 2},
	} {
		if got := half(c.n); got != c.want {
			t.Errorf("half(%d) = %d, want %d", c.n, got, c.want)
		}
	}
}

// TestEveryPixel: each of the pixels comes back from its own numbers.
func TestEveryPixel(t *testing.T) {
	for n := range 1 << 24 {
		p := api.Pixel{byte(n >> 16), byte(n >> 8), byte(n)}
		c := Turn(p)
		if q, ok := Back(c); q != p || !ok {
			t.Fatalf("Back(Turn(%v)) = Back(%v) = %v, %v", p, c, q, ok)
		}
	}
}

// TestNoOther: among all numbers that could be those of a pixel, and some
// further out, just as many are taken as there are pixels, each for its own.
func TestNoOther(t *testing.T) {
	taken := 0
	for y := -3; y <= top+3; y++ {
		for u := -top - 3; u <= top+3; u++ {
			for v := -top - 3; v <= top+3; v++ {
				c := [3]int{y, u, v}
				p, ok := Back(c)
				if !ok {
					if p != (api.Pixel{}) {
						t.Fatalf("Back(%v) refuses, yet tells %v", c, p)
					}
					continue
				}
				if Turn(p) != c {
					t.Fatalf("Back(%v) = %v, whose numbers are %v", c, p, Turn(p))
				}
				taken++
			}
		}
	}
	if taken != 1<<24 {
		t.Errorf("%d threes of numbers are taken, want %d", taken, 1<<24)
	}
}
