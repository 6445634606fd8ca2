package line

import "math/bits"

// Writer packs bits into a line, one by one.
type Writer struct {
	course
	out []byte
	low uint32
}

// NewWriter begins a line.
func NewWriter() *Writer { return &Writer{course: newCourse()} }

// Put packs the next bit, of the context k.
func (w *Writer) Put(k, bit int) {
	rise, shifts := w.take(k, bit)
	w.raise(rise)
	for range shifts {
		w.out = append(w.out, byte(w.low>>24))
		w.low <<= 8
	}
}

// End tells the line's bytes: those that the reader of these bits takes, as
// many bytes as it has shifted, and the four with which it began.
func (w *Writer) End() string {
	n := w.low
	return string(w.out) + string([]byte{byte(n >> 24), byte(n >> 16), byte(n >> 8), byte(n)})
}

// raise moves the lowest code up. Its sum may not fit; what is over goes into
// the bytes that are out already.
func (w *Writer) raise(by uint32) {
	low, over := bits.Add32(w.low, by, 0)
	w.low = low
	if over != 0 {
		w.carry()
	}
}

// carry never runs out of bytes: all bytes as one number stay below the range
// of the begin.
func (w *Writer) carry() {
	for i := len(w.out) - 1; i >= 0; i-- {
		w.out[i]++
		if w.out[i] != 0 {
			return
		}
	}
}
