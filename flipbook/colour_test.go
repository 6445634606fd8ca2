package flipbook_test

import (
	"math"
	"math/big"
	"testing"

	"flipbook/api"
	"flipbook/flipbook"
)

// turns are pixels and their numbers, worked out by hand.
var turns = []struct {
	p api.Pixel
	c [3]int
}{
	{api.Pixel{10, 20, 30}, [3]int{20, -20, 0}},
	{api.Pixel{0, 0, 0}, [3]int{0, 0, 0}},
	{api.Pixel{255, 255, 255}, [3]int{255, 0, 0}},
	{api.Pixel{255, 0, 0}, [3]int{63, 255, -127}},
	{api.Pixel{0, 255, 0}, [3]int{127, 0, 255}},
	{api.Pixel{0, 0, 255}, [3]int{63, -255, -127}},
	{api.Pixel{255, 0, 255}, [3]int{127, 0, -255}},
	{api.Pixel{255, 255, 0}, [3]int{191, 255, 128}},
	{api.Pixel{0, 255, 255}, [3]int{191, -255, 128}},
	// U -5 has the half -3: t is 6 - 3.
	{api.Pixel{1, 3, 6}, [3]int{3, -5, 0}},
	// V -5 has the half -3: Y is 9 - 3.
	{api.Pixel{9, 4, 9}, [3]int{6, 0, -5}},
	// Both are -1, with the half -1.
	{api.Pixel{0, 0, 1}, [3]int{0, -1, 0}},
	{api.Pixel{1, 0, 1}, [3]int{0, 0, -1}},
	{api.Pixel{1, 0, 2}, [3]int{0, -1, -1}},
}

func TestTurn(t *testing.T) {
	for _, c := range turns {
		if got := flipbook.Turn(c.p); got != c.c {
			t.Errorf("P3: Turn(%v) = %v, want %v", c.p, got, c.c)
		}
	}
}

func TestBack(t *testing.T) {
	for _, c := range turns {
		if p, e := flipbook.Back(c.c); p != c.p || e != api.OK {
			t.Errorf("P4: Back(%v) = %v, %d, want %v", c.c, p, e, c.p)
		}
	}
}

// TestBackNoPixel: each of red, green and blue is once just too small and
// once just too great, the other two being fine.
func TestBackNoPixel(t *testing.T) {
	for _, c := range [][3]int{
		{0, 0, -2},    // t 1, G -1
		{254, 0, 3},   // t 253, G 256
		{0, -2, 0},    // t 0, B 1, R -1
		{255, 1, 0},   // t 255, B 255, R 256
		{0, 2, 0},     // t 0, B -1
		{255, -1, 0},  // t 255, B 256
		{-1, 0, 0},    // t -1, all three -1
		{256, 0, 0},   // t 256, all three 256
		{0, 256, 0},   // U further out than any pixel's
		{0, 0, 256},   // V likewise
		{255, 0, 511}, // t 0, G 511
	} {
		if p, e := flipbook.Back(c); p != (api.Pixel{}) || e != api.ErrColour {
			t.Errorf("P4: Back(%v) = %v, %d, want no pixel and ErrColour", c, p, e)
		}
	}
}

// TestBackAllNumbers holds Back against numbers that know no bound, where
// sums in int, or in fewer bits, would wrap round.
func TestBackAllNumbers(t *testing.T) {
	numbers := []int{}
	for _, n := range []int{math.MinInt, math.MinInt / 2, math.MinInt32, -65536, -512, -256, 0, 256, 512, 65536, 1 << 31, math.MaxInt/2 + 1, math.MaxInt} {
		// Behind the greatest comes the least, which may be tried twice.
		numbers = append(numbers, n-2, n-1, n, n+1, n+2, n+100)
	}
	for _, y := range numbers {
		for _, u := range numbers {
			for _, v := range numbers {
				c := [3]int{y, u, v}
				want, wantErr := unboundedBack(c)
				if p, e := flipbook.Back(c); p != want || e != wantErr {
					t.Fatalf("P4: Back(%v) = %v, %d, want %v, %d", c, p, e, want, wantErr)
				}
			}
		}
	}
}

// unboundedBack is P4 by its words, in numbers of any length.
func unboundedBack(c [3]int) (api.Pixel, api.Errno) {
	y, u, v := big.NewInt(int64(c[0])), big.NewInt(int64(c[1])), big.NewInt(int64(c[2]))
	half := func(n *big.Int) *big.Int { return new(big.Int).Div(n, big.NewInt(2)) }
	t := new(big.Int).Sub(y, half(v))
	g := new(big.Int).Add(v, t)
	b := new(big.Int).Sub(t, half(u))
	r := new(big.Int).Add(u, b)
	p := api.Pixel{}
	for i, n := range []*big.Int{r, g, b} {
		if n.Sign() < 0 || n.Cmp(big.NewInt(255)) > 0 {
			return api.Pixel{}, api.ErrColour
		}
		p[i] = byte(n.Int64())
	}
	return p, api.OK
}

// TestColourCallsKeepNothing: the same arguments have the same answer,
// whatever was asked between, and stay as they were (P2).
func TestColourCallsKeepNothing(t *testing.T) {
	p, c := api.Pixel{10, 20, 30}, [3]int{20, -20, 0}
	for _, other := range turns {
		if got := flipbook.Turn(p); got != ([3]int{20, -20, 0}) {
			t.Errorf("P2: Turn(%v) = %v", p, got)
		}
		if got, e := flipbook.Back(c); got != (api.Pixel{10, 20, 30}) || e != api.OK {
			t.Errorf("P2: Back(%v) = %v, %d", c, got, e)
		}
		flipbook.Turn(other.p)
		flipbook.Back(other.c)
		flipbook.Back([3]int{-1, 0, 0})
	}
	if p != (api.Pixel{10, 20, 30}) || c != ([3]int{20, -20, 0}) {
		t.Errorf("P2: the arguments have become %v and %v", p, c)
	}
}
