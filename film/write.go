package film

import (
	"cmp"
	"slices"

	"flipbook/api"
	"flipbook/line"
)

// Write makes the bytes of a film. They are never more than there may be: even
// if each bit of soft blocks were the less likely one to the utmost, some 13000
// bytes would do for a frame, and nothing heavier than a soft block is taken.
func Write(f api.Film) string {
	w := &writer{}
	all := line.NewDraft()
	for _, pixels := range f.Frames {
		w.begin(picture{f.Size, pixels})
		all.Append(w.area(all, area{side: f.Size}))
	}
	return marks + string([]byte{byte(f.Size), byte(len(f.Frames))}) + all.Pack()
}

// writer is what is known of a film while its line is being made. Nothing of it
// comes from frames that follow: so a frame that is there twice leaves the line
// ahead of it as it was, and takes no more than its still block.
type writer struct {
	now    picture
	here   places // of this frame
	before places // of the frame before, if there is one
}

func (w *writer) begin(p picture) {
	w.now = p
	w.before = w.here
	w.here = lookOver(p)
}

// area tells the lightest way to go on with an area that was found. A plain one
// is not split: its quarters would only say one thing four times.
func (w *writer) area(ahead *line.Draft, a area) *line.Draft {
	best := w.block(ahead, a)
	if a.side == leastSide || w.isPlain(a) {
		return best
	}
	if split := w.split(ahead, a); split.Lighter(best) {
		return split
	}
	return best
}

func (w *writer) split(ahead *line.Draft, a area) *line.Draft {
	d := ahead.Next()
	d.Put(splitContext(a.side), 1)
	for _, q := range a.quarters() {
		d.Append(w.area(d, q))
	}
	return d
}

// block tells the area as a block of the lightest kind that it can be of.
func (w *writer) block(ahead *line.Draft, a area) *line.Draft {
	table := [kinds]func(*writer, *line.Draft, area) bool{
		kindSoft:  (*writer).soft,
		kindFew:   (*writer).few,
		kindCopy:  (*writer).copied,
		kindStill: (*writer).still,
	}
	var best *line.Draft
	for kind, write := range table {
		d := ahead.Next()
		putKind(d, a, kind)
		if write(w, d, a) && (best == nil || d.Lighter(best)) {
			best = d
		}
	}
	return best
}

// putKind begins an area that is one block.
func putKind(d *line.Draft, a area, kind int) {
	if a.side > leastSide {
		d.Put(splitContext(a.side), 0)
	}
	first, second := kind/2, kind%2
	d.Put(firstKindContext, first)
	d.Put(secondKindContext+first, second)
}

// isPlain tells whether the area has one colour.
func (w *writer) isPlain(a area) bool {
	first := w.now.at(a.x, a.y)
	for x, y := range a.points() {
		if w.now.at(x, y) != first {
			return false
		}
	}
	return true
}

// soft puts how far each pixel is from what is expected of it.
func (w *writer) soft(d *line.Draft, a area) bool {
	for x, y := range a.points() {
		c, e := w.now.turned(x, y), w.now.expected(x, y)
		for i, k := range softContexts {
			d.PutSigned(k, c[i]-e[i])
		}
	}
	return true
}

// few puts the colours, and of each pixel which of them it has.
func (w *writer) few(d *line.Draft, a area) bool {
	colours, ok := w.colours(a)
	if !ok {
		return false
	}
	last := len(colours) - 1
	d.PutNumber(fewContextCount, last)
	for _, c := range colours {
		for _, v := range c {
			d.PutNumber(fewContextColour, int(v))
		}
	}
	for x, y := range a.points() {
		putChoice(d, slices.Index(colours, w.now.at(x, y)), last)
	}
	return true
}

// putChoice puts a number from 0 to last; behind last ones no 0 is needed.
func putChoice(d *line.Draft, n, last int) {
	for i := range n {
		d.Put(fewContextChoice+i, 1)
	}
	if n < last {
		d.Put(fewContextChoice+n, 0)
	}
}

// tally is how often a colour is there.
type tally struct {
	colour api.Pixel
	count  int
}

// colours tells which an area has, the most frequent ones first, as a choice of
// these has less bits; it tells none if they are not few.
func (w *writer) colours(a area) ([]api.Pixel, bool) {
	var tallies []tally
	for x, y := range a.points() {
		c := w.now.at(x, y)
		i := slices.IndexFunc(tallies, func(t tally) bool { return t.colour == c })
		if i < 0 {
			i = len(tallies)
			tallies = append(tallies, tally{colour: c})
		}
		if i == mostFew {
			return nil, false
		}
		tallies[i].count++
	}
	slices.SortStableFunc(tallies, func(s, t tally) int { return cmp.Compare(t.count, s.count) })
	list := make([]api.Pixel, len(tallies))
	for i, t := range tallies {
		list[i] = t.colour
	}
	return list, true
}

// copied puts from where in this frame the block is taken.
func (w *writer) copied(d *line.Draft, a area) bool {
	ahead := func(from area) bool { return from.isAhead(a) }
	dx, dy, ok := w.here.nearest(w.now.content(a), a, ahead)
	if ok {
		d.PutSigned(copyContextX, dx)
		d.PutSigned(copyContextY, dy)
	}
	return ok
}

// still puts from where in the frame before the block is taken.
func (w *writer) still(d *line.Draft, a area) bool {
	anywhere := func(area) bool { return true }
	dx, dy, ok := w.before.nearest(w.now.content(a), a, anywhere)
	if ok {
		d.PutSigned(stillContextX, dx)
		d.PutSigned(stillContextY, dy)
	}
	return ok
}
