package film

import (
	"iter"

	"flipbook/api"
	"flipbook/colour"
)

// area is a square of a frame.
type area struct {
	x, y, side int
}

// quarters tells the areas of half the side, in the order of the line.
func (a area) quarters() [4]area {
	h := a.side / 2
	return [4]area{
		{a.x, a.y, h}, {a.x + h, a.y, h},
		{a.x, a.y + h, h}, {a.x + h, a.y + h, h},
	}
}

func (a area) moved(dx, dy int) area { return area{a.x + dx, a.y + dy, a.side} }

// points goes through the area row by row.
func (a area) points() iter.Seq2[int, int] {
	return func(yield func(x, y int) bool) {
		for y := a.y; y < a.y+a.side; y++ {
			for x := a.x; x < a.x+a.side; x++ {
				if !yield(x, y) {
					return
				}
			}
		}
	}
}

// picture is a frame, whole or in the making.
type picture struct {
	size   int
	pixels []api.Pixel
}

func newPicture(size int) picture {
	return picture{size, make([]api.Pixel, size*size)}
}

func (p picture) at(x, y int) api.Pixel { return p.pixels[y*p.size+x] }

func (p picture) set(x, y int, c api.Pixel) { p.pixels[y*p.size+x] = c }

// has tells whether the whole area is within the picture.
func (p picture) has(a area) bool {
	return a.x >= 0 && a.y >= 0 && a.x+a.side <= p.size && a.y+a.side <= p.size
}

// content tells what an area shows.
func (p picture) content(a area) content {
	c := content{side: a.side}
	i := 0
	for x, y := range a.points() {
		c.pixels[i] = p.at(x, y)
		i++
	}
	return c
}

// turned tells a pixel turned; outside there is nothing, not even black.
func (p picture) turned(x, y int) [3]int {
	if x < 0 || y < 0 {
		return [3]int{}
	}
	return colour.Turn(p.at(x, y))
}

// expected tells which colour, turned, would go on softly at (x, y) from what
// is on the left and above.
func (p picture) expected(x, y int) [3]int {
	left, above, corner := p.turned(x-1, y), p.turned(x, y-1), p.turned(x-1, y-1)
	var e [3]int
	for i := range e {
		e[i] = expect(left[i], above[i], corner[i])
	}
	return e
}

// expect takes the corner beyond both neighbours for an edge, on the other side
// of which the pixel lies.
func expect(left, above, corner int) int {
	low, high := min(left, above), max(left, above)
	switch {
	case corner >= high:
		return low
	case corner <= low:
		return high
	}
	return left + above - corner
}
