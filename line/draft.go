package line

// Draft is a piece of a line that is not packed yet. Beside its bits it has the
// course of the line up to behind them, so that drafts which go on from the same
// bit can be held against each other, and the lighter one be taken.
type Draft struct {
	course
	shifts int
	bits   []step
}

// step is a bit of a draft. It is small, as far more bits are tried than taken.
type step struct {
	context uint16
	bit     uint8
}

// NewDraft begins a line.
func NewDraft() *Draft { return &Draft{course: newCourse()} }

// Next tells a draft without bits that goes on where this one ends.
func (d *Draft) Next() *Draft { return &Draft{course: d.course, shifts: d.shifts} }

// Put adds a bit, of the context k.
func (d *Draft) Put(k, bit int) {
	_, shifts := d.take(k, bit)
	d.shifts += shifts
	d.bits = append(d.bits, step{uint16(k), uint8(bit)})
}

// Append adds the bits of a draft that goes on where this one ends.
func (d *Draft) Append(next *Draft) {
	d.course, d.shifts = next.course, next.shifts
	d.bits = append(d.bits, next.bits...)
}

// Lighter tells whether the line takes less room up to here than it would with
// the other draft. Of lines of as many bytes, the one with the greater range has
// more room left in the last of them.
func (d *Draft) Lighter(other *Draft) bool {
	if d.shifts != other.shifts {
		return d.shifts < other.shifts
	}
	return d.span > other.span
}

// Pack tells the bytes of the line; the draft must be one from its begin.
func (d *Draft) Pack() string {
	w := NewWriter()
	for _, b := range d.bits {
		w.Put(int(b.context), int(b.bit))
	}
	return w.End()
}
