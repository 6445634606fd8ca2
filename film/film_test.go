package film

import (
	"errors"
	"slices"
	"testing"

	"flipbook/api"
	"flipbook/line"
)

// TestFault: it wraps what is wrong, and tells the place.
func TestFault(t *testing.T) {
	var err error = Fault{api.Place{Frame: 3, X: 12, Y: 4}, line.ErrShort}
	if !errors.Is(err, line.ErrShort) || errors.Is(err, line.ErrTrail) {
		t.Errorf("%v wraps %v", err, errors.Unwrap(err))
	}
	if want := "frame 3, at (12, 4): the line ends too early"; err.Error() != want {
		t.Errorf("%q, want %q", err.Error(), want)
	}
}

// TestReadFaults: a fault has a place if it was met in an area or a block, and
// no fault is wrapped twice.
func TestReadFaults(t *testing.T) {
	for _, c := range []struct {
		b     string
		want  error
		place bool
	}{
		{"", ErrHead, false},
		{"FB\x04\x00", line.ErrShort, false},
		{"FB\x04\x00\xff\xff\xff\xff", line.ErrCode, false},
		{"FB\x04\x00\x00\x00\x00\x00\x00", line.ErrTrail, false},
		{"FB\x04\x01\x00\x00\x00\x00", line.ErrShort, true},
		{"FB\x10\x01\xff\xff\xff\xfe", ErrFirst, true},
		{"FB\x04\x01\xa0\x00\x00\x00", ErrVector, true},
	} {
		f, err := Read(c.b)
		if f.Size != 0 || f.Frames != nil || !errors.Is(err, c.want) {
			t.Errorf("P7: Read(%q): %v, %v, want %v", c.b, f, err, c.want)
		}
		var fault Fault
		if errors.As(err, &fault) != c.place {
			t.Errorf("P7: Read(%q): %v, want a place: %t", c.b, err, c.place)
		}
		if c.place && fault.What != c.want {
			t.Errorf("P7: Read(%q): %v wraps %v, not %v itself", c.b, err, fault.What, c.want)
		}
	}
}

// TestExpect: beyond the neighbours, at them, and between.
func TestExpect(t *testing.T) {
	for _, c := range []struct{ left, above, corner, want int }{
		{0, 0, 0, 0}, {7, 7, 7, 7},
		{3, 8, 9, 3}, {8, 3, 9, 3}, {3, 8, 8, 3}, {8, 3, 8, 3},
		{3, 8, 2, 8}, {8, 3, 2, 8}, {3, 8, 3, 8}, {8, 3, 3, 8},
		{3, 8, 4, 7}, {8, 3, 4, 7}, {3, 8, 7, 4},
		{5, 5, 4, 5}, {5, 5, 6, 5},
		{-255, 255, 0, 0}, {-255, 255, -254, 254}, {-3, -8, -9, -3}, {-3, -8, -2, -8}, {0, -8, -5, -3},
	} {
		if got := expect(c.left, c.above, c.corner); got != c.want {
			t.Errorf("P7: expect(%d, %d, %d) = %d, want %d", c.left, c.above, c.corner, got, c.want)
		}
	}
}

// TestExpected: each of the three numbers by itself; nothing is outside.
func TestExpected(t *testing.T) {
	p := newPicture(4)
	p.set(0, 0, api.Pixel{10, 20, 30})  // 20 -20 0
	p.set(1, 0, api.Pixel{200, 100, 0}) // U 200, t 100, V 0, Y 100
	p.set(0, 1, api.Pixel{0, 0, 255})   // U -255, t 127, V -127, Y 63
	for _, c := range []struct {
		x, y int
		want [3]int
	}{
		{0, 0, [3]int{0, 0, 0}},
		{1, 0, [3]int{20, -20, 0}},     // (20 0 0), (-20 0 0), (0 0 0)
		{0, 1, [3]int{20, -20, 0}},     // the same, from above
		{1, 1, [3]int{100, -35, -127}}, // (63 100 20), (-255 200 -20), (-127 0 0)
	} {
		if got := p.expected(c.x, c.y); got != c.want {
			t.Errorf("P7: expected at (%d, %d): %v, want %v", c.x, c.y, got, c.want)
		}
	}
}

// TestPoints: row by row, and no further than is asked for.
func TestPoints(t *testing.T) {
	var got [][2]int
	for x, y := range (area{3, 5, 2}).points() {
		got = append(got, [2]int{x, y})
	}
	if want := [][2]int{{3, 5}, {4, 5}, {3, 6}, {4, 6}}; !slices.Equal(got, want) {
		t.Errorf("%v, want %v", got, want)
	}
	for x, y := range (area{3, 5, 2}).points() {
		if x == 4 && y == 5 {
			break
		}
		if x != 3 || y != 5 {
			t.Errorf("(%d, %d) behind the end", x, y)
		}
	}
}
