package film

import (
	"flipbook/api"
	"flipbook/colour"
	"flipbook/line"
)

// Read makes a film of its bytes. What it meets within an area or a block comes
// up as a Fault.
func Read(b string) (api.Film, error) {
	size, frames, err := readHead(b)
	if err != nil {
		return api.Film{}, err
	}
	bits, err := line.NewReader(b[headBytes:])
	if err != nil {
		return api.Film{}, err
	}
	r := &reader{bits: bits, size: size}
	for range frames {
		if err := r.frame(); err != nil {
			return api.Film{}, err
		}
	}
	if err := bits.End(); err != nil {
		return api.Film{}, err
	}
	return api.Film{Size: size, Frames: r.done}, nil
}

// readHead tells the size and how many frames there are.
func readHead(b string) (size, frames int, err error) {
	if len(b) < headBytes || b[:sizeAt] != marks {
		return 0, 0, ErrHead
	}
	size, frames = int(b[sizeAt]), int(b[framesAt])
	if !isSize(size) || frames > api.MaxFrames {
		return 0, 0, ErrHead
	}
	return size, frames, nil
}

// reader is what is known of a film while its line is being read.
type reader struct {
	bits *line.Reader
	size int
	done [][]api.Pixel // the frames ahead of this one
	now  picture
	read []bool // of each pixel of this frame, whether it counts as read
}

func (r *reader) frame() error {
	r.now = newPicture(r.size)
	r.read = make([]bool, r.size*r.size)
	if err := r.area(area{side: r.size}); err != nil {
		return err
	}
	r.done = append(r.done, r.now.pixels)
	return nil
}

// area wraps what goes wrong with its place, but not what its quarters have
// wrapped with theirs.
func (r *reader) area(a area) error {
	split, err := r.split(a)
	if err != nil {
		return r.fault(a, err)
	}
	if !split {
		return r.fault(a, r.block(a))
	}
	for _, q := range a.quarters() {
		if err := r.area(q); err != nil {
			return err
		}
	}
	return nil
}

func (r *reader) fault(a area, what error) error {
	if what == nil {
		return nil
	}
	return Fault{api.Place{Frame: len(r.done), X: a.x, Y: a.y}, what}
}

func (r *reader) split(a area) (bool, error) {
	if a.side == leastSide {
		return false, nil
	}
	bit, err := r.bits.Bit(splitContext(a.side))
	return bit == 1, err
}

func (r *reader) block(a area) error {
	table := [kinds]func(*reader, area) error{
		kindSoft:  (*reader).soft,
		kindFew:   (*reader).few,
		kindCopy:  (*reader).copied,
		kindStill: (*reader).still,
	}
	kind, err := r.kind()
	if err != nil {
		return err
	}
	if err := table[kind](r, a); err != nil {
		return err
	}
	for x, y := range a.points() {
		r.read[y*r.size+x] = true
	}
	return nil
}

func (r *reader) kind() (int, error) {
	first, err := r.bits.Bit(firstKindContext)
	if err != nil {
		return 0, err
	}
	second, err := r.bits.Bit(secondKindContext + first)
	return 2*first + second, err
}

// soft reads how far each pixel is from what is expected of it.
func (r *reader) soft(a area) error {
	for x, y := range a.points() {
		c := r.now.expected(x, y)
		for i, k := range softContexts {
			n, err := r.bits.Signed(k)
			if err != nil {
				return err
			}
			c[i] += n
		}
		p, ok := colour.Back(c)
		if !ok {
			return ErrColour
		}
		r.now.set(x, y, p)
	}
	return nil
}

// few reads some colours, and of each pixel which of them it has.
func (r *reader) few(a area) error {
	n, err := r.bits.Number(fewContextCount)
	if err != nil {
		return err
	}
	if n >= mostFew {
		return line.ErrNumber
	}
	colours := make([]api.Pixel, n+1)
	for i := range colours {
		if colours[i], err = r.pixel(); err != nil {
			return err
		}
	}
	for x, y := range a.points() {
		i, err := r.choice(n)
		if err != nil {
			return err
		}
		r.now.set(x, y, colours[i])
	}
	return nil
}

func (r *reader) pixel() (api.Pixel, error) {
	var p api.Pixel
	for i := range p {
		n, err := r.bits.Number(fewContextColour)
		if err != nil {
			return api.Pixel{}, err
		}
		if n > topColour {
			return api.Pixel{}, ErrColour
		}
		p[i] = byte(n)
	}
	return p, nil
}

// choice reads a number from 0 to last; behind last ones no 0 is needed.
func (r *reader) choice(last int) (int, error) {
	for n := range last {
		bit, err := r.bits.Bit(fewContextChoice + n)
		if err != nil {
			return 0, err
		}
		if bit == 0 {
			return n, nil
		}
	}
	return last, nil
}

// copied reads from where in this frame the block is taken.
func (r *reader) copied(a area) error {
	from, err := r.source(a, copyContextX, copyContextY)
	if err != nil {
		return err
	}
	for x, y := range from.points() {
		if !r.read[y*r.size+x] {
			return ErrVector
		}
	}
	r.take(a, r.now, from)
	return nil
}

// still reads from where in the frame before the block is taken.
func (r *reader) still(a area) error {
	if len(r.done) == 0 {
		return ErrFirst
	}
	from, err := r.source(a, stillContextX, stillContextY)
	if err != nil {
		return err
	}
	r.take(a, picture{r.size, r.done[len(r.done)-1]}, from)
	return nil
}

// source reads a vector, and tells the area within the frame to which it leads.
func (r *reader) source(a area, kx, ky int) (area, error) {
	dx, err := r.bits.Signed(kx)
	if err != nil {
		return area{}, err
	}
	dy, err := r.bits.Signed(ky)
	if err != nil {
		return area{}, err
	}
	from := a.moved(dx, dy)
	if !r.now.has(from) {
		return area{}, ErrVector
	}
	return from, nil
}

// take makes an area of this frame of an area of the same side.
func (r *reader) take(a area, p picture, from area) {
	for x, y := range a.points() {
		r.now.set(x, y, p.at(x-a.x+from.x, y-a.y+from.y))
	}
}
