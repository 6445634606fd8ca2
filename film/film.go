// Package film reads and writes the bytes of films: frames that are split into
// blocks, and blocks of four kinds.
package film

import (
	"errors"
	"strconv"

	"flipbook/api"
)

// What can be wrong with a film's bytes, beside what can be wrong with a line.
var (
	ErrHead   = errors.New("no film begins with these bytes")
	ErrColour = errors.New("there is no such colour")
	ErrVector = errors.New("a block is made of pixels that are not there")
	ErrFirst  = errors.New("no frame is before the first one")
)

// Fault is what is wrong, wrapped with the place of the area or block in which
// it was met.
type Fault struct {
	Place api.Place
	What  error
}

func (f Fault) Error() string {
	p := f.Place
	return "frame " + strconv.Itoa(p.Frame) + ", at (" + strconv.Itoa(p.X) + ", " + strconv.Itoa(p.Y) + "): " + f.What.Error()
}

// Unwrap lets errors.Is ask for what is wrong.
func (f Fault) Unwrap() error { return f.What }

// The four bytes ahead of the line: two marks, the size, how many frames.
const (
	marks     = "FB"
	sizeAt    = 2
	framesAt  = 3
	headBytes = 4
)

// isSize tells whether frames may have this size.
func isSize(n int) bool { return n == 4 || n == 8 || n == 16 }

// IsFilm tells whether this is a film. The size is looked at first: with others
// its square might wrap round.
func IsFilm(f api.Film) bool {
	if !isSize(f.Size) || len(f.Frames) > api.MaxFrames {
		return false
	}
	for _, frame := range f.Frames {
		if len(frame) != f.Size*f.Size {
			return false
		}
	}
	return true
}

const (
	// leastSide is the side of the areas that are not split any further.
	leastSide = 4
	// mostSide is the side of the greatest frames.
	mostSide = 16
	// mostPixels is how many pixels a block may have.
	mostPixels = mostSide * mostSide
)

// The kinds of blocks.
const (
	kindSoft = iota
	kindFew
	kindCopy
	kindStill
	kinds
)

const (
	// mostFew is how many colours a block of few colours may have.
	mostFew = 4
	// topColour is the greatest value of red, green and blue.
	topColour = 255
)

// The contexts of a film's line; where a number is read, the first of its own.
const (
	splitContext16    = 0
	splitContext8     = 1
	firstKindContext  = 2
	secondKindContext = 3 // or the next one, if the first bit is 1
	softContextY      = 100
	softContextU      = 124
	softContextV      = 148
	fewContextCount   = 200
	fewContextColour  = 224
	fewContextChoice  = 250 // and the next ones, a further one for each bit
	copyContextX      = 260
	copyContextY      = 284
	stillContextX     = 310
	stillContextY     = 334
)

// softContexts are those of a soft block's three numbers.
var softContexts = [3]int{softContextY, softContextU, softContextV}

// splitContext tells the context of the bit with which an area begins that may
// be split.
func splitContext(side int) int {
	if side == 16 {
		return splitContext16
	}
	return splitContext8
}
