package film

import (
	"flipbook/api"
	"flipbook/line"
)

// content is what an area shows, row by row, wherever it lies. What is behind
// its last pixel stays zero, so that the same pixels are the same key.
type content struct {
	side   int
	pixels [mostPixels]api.Pixel
}

// places tells of each content where in a frame it is to be seen, from the upper
// left corner on.
type places map[content][]area

// lookOver tells the places of all areas that a block of the frame can be made
// of.
func lookOver(p picture) places {
	all := places{}
	for side := leastSide; side <= p.size; side *= 2 {
		corners := area{side: p.size - side + 1}
		for x, y := range corners.points() {
			a := area{x, y, side}
			c := p.content(a)
			all[c] = append(all[c], a)
		}
	}
	return all
}

// nearest tells the way from the area a to a place of this content, among those
// that may be taken: the vector that has the fewest bits, the first of several.
func (l places) nearest(c content, a area, may func(from area) bool) (dx, dy int, ok bool) {
	least := 0
	for _, from := range l[c] {
		x, y := from.x-a.x, from.y-a.y
		n := line.SignedBits(x) + line.SignedBits(y)
		if may(from) && (!ok || n < least) {
			dx, dy, least, ok = x, y, n, true
		}
	}
	return dx, dy, ok
}

// isAhead tells whether all pixels of an area are read ahead of the block b. The
// last one of them is the lower right one, however the area lies.
func (a area) isAhead(b area) bool {
	last := a.side - 1
	return rank(a.x+last, a.y+last) < rank(b.x, b.y)
}

// rank tells how many pixels come ahead of the one at (x, y), if a frame is
// split as far as it goes, and further on down to the pixels. Which ones are read
// ahead of a block is the same for all ways to split what is ahead of it.
func rank(x, y int) int {
	n := 0
	for half := mostSide / 2; half > 0; half /= 2 {
		n = 4*n + 2*(y/half%2) + x/half%2
	}
	return n
}
