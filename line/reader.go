package line

import "errors"

// What can be wrong with a line.
var (
	ErrShort  = errors.New("the line ends too early")
	ErrCode   = errors.New("no line begins with these bytes")
	ErrTrail  = errors.New("the line goes on behind its last bit")
	ErrNumber = errors.New("a number is too great")
)

// codeBytes is how many bytes the code has.
const codeBytes = 4

// Reader reads the bits of a line, one by one.
type Reader struct {
	rest       string
	span, code uint32
	chances    chances
}

// NewReader begins to read a line: ErrShort or ErrCode, if none begins so.
func NewReader(b string) (*Reader, error) {
	r := &Reader{rest: b, span: whole, chances: newChances()}
	for range codeBytes {
		if err := r.shift(); err != nil {
			return nil, err
		}
	}
	if r.code >= whole {
		return nil, ErrCode
	}
	return r, nil
}

// Bit reads the next bit, of the context k: ErrShort, if bytes are missing
// for the one behind it.
func (r *Reader) Bit(k int) (int, error) {
	cut := r.chances.cut(r.span, k)
	bit := 0
	if r.code < cut {
		r.span = cut
	} else {
		bit = 1
		r.code -= cut
		r.span -= cut
	}
	r.chances.learn(k, bit)
	for r.span < least {
		if err := r.shift(); err != nil {
			return 0, err
		}
		r.span <<= 8
	}
	return bit, nil
}

// End is to be called behind the last bit: ErrTrail, if bytes are left.
func (r *Reader) End() error {
	if r.rest != "" {
		return ErrTrail
	}
	return nil
}

// shift takes the next byte into the code.
func (r *Reader) shift() error {
	if r.rest == "" {
		return ErrShort
	}
	r.code = r.code<<8 | uint32(r.rest[0])
	r.rest = r.rest[1:]
	return nil
}
