package line

import "math/bits"

// mostOnes is how many ones a number may begin with; each of them stands for
// one more of its digits.
const mostOnes = 9

// digitContexts is how far behind a number's first context those of its digits
// begin.
const digitContexts = 12

// Number reads a number, of the contexts from k on: ErrNumber, if it has too
// many digits.
func (r *Reader) Number(k int) (int, error) {
	n, err := r.ones(k)
	if err != nil {
		return 0, err
	}
	// The digit ahead of the others is always 1 and was left out; with it no
	// number can be written in two ways.
	m := 1
	for range n {
		digit, err := r.Bit(k + digitContexts + n)
		if err != nil {
			return 0, err
		}
		m = m<<1 | digit
	}
	return m - 1, nil
}

// ones counts the bits up to the first 0.
func (r *Reader) ones(k int) (int, error) {
	for n := 0; ; n++ {
		bit, err := r.Bit(k + n)
		if err != nil {
			return 0, err
		}
		if bit == 0 {
			return n, nil
		}
		if n == mostOnes {
			return 0, ErrNumber
		}
	}
}

// Signed reads a signed number, of the contexts from k on.
func (r *Reader) Signed(k int) (int, error) {
	m, err := r.Number(k)
	if err != nil {
		return 0, err
	}
	if m%2 == 0 {
		return m / 2, nil
	}
	return -(m + 1) / 2, nil
}

// PutNumber adds a number from 0 to 1022, of the contexts from k on.
func (d *Draft) PutNumber(k, m int) {
	n := digits(m)
	for i := range n {
		d.Put(k+i, 1)
	}
	d.Put(k+n, 0)
	for i := n - 1; i >= 0; i-- {
		d.Put(k+digitContexts+n, (m+1)>>i&1)
	}
}

// PutSigned adds a signed number from -511 to 511, of the contexts from k on.
func (d *Draft) PutSigned(k, n int) { d.PutNumber(k, fold(n)) }

// SignedBits tells how many bits a signed number has.
func SignedBits(n int) int { return 2*digits(fold(n)) + 1 }

// digits tells how many digits are put of a number, and as many ones ahead of
// them.
func digits(m int) int { return bits.Len(uint(m+1)) - 1 }

// fold tells the number of which a signed number is made.
func fold(n int) int {
	if n < 0 {
		return -2*n - 1
	}
	return 2 * n
}
