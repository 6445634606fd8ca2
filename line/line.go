// Package line packs bits of known contexts into a line of bytes, and reads
// them from it.
package line

import "flipbook/api"

const (
	// whole is the range ahead of the first bit.
	whole = 1<<32 - 1
	// least is what the range never stays below: with less, the cuts would
	// be too coarse, and one of them could be empty.
	least = 1 << 24
	// certain is the chance of a bit that could only be 0.
	certain = 4096
	// even is the chance that every context has at first.
	even = certain / 2
	// pace is which part of its way to the end a chance goes with a bit.
	pace = 32
)

// chances tells of each context how likely its next bit is 0. The writer and
// the reader of a line each have their own, and move them alike.
type chances [api.Chances]uint32

// IsContext tells whether there is such a context; the others have no chance.
func IsContext(k int) bool { return 0 <= k && k < api.Chances }

func newChances() chances {
	var c chances
	for k := range c {
		c[k] = even
	}
	return c
}

// cut tells which part of the range is for the bit 0. It is never nothing and
// never all: a chance stays from 31 to 4065, as the steps of learn get to 0
// there.
func (c *chances) cut(span uint32, k int) uint32 { return span / certain * c[k] }

func (c *chances) learn(k, bit int) {
	if bit == 0 {
		c[k] += (certain - c[k]) / pace
	} else {
		c[k] -= c[k] / pace
	}
}

// course is how far a line that is being made has come: its range, and the
// chances.
type course struct {
	span    uint32
	chances chances
}

func newCourse() course { return course{span: whole, chances: newChances()} }

// take narrows the range to the part of a bit, of the context k. It tells by how
// much the lowest code rises with that, and by how many bytes the range is
// shifted then.
func (c *course) take(k, bit int) (rise uint32, shifts int) {
	cut := c.chances.cut(c.span, k)
	if bit == 0 {
		c.span = cut
	} else {
		rise = cut
		c.span -= cut
	}
	c.chances.learn(k, bit)
	for c.span < least {
		c.span <<= 8
		shifts++
	}
	return rise, shifts
}
