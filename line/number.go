package line

// mostOnes is how many ones a number may begin with; each of them stands for
// one more of its digits.
const mostOnes = 9

// digitContexts is how far behind a number's first context those of its digits
// begin.
const digitContexts = 12

// Number reads a number, of the contexts from k on: ErrNumber, if it has too
// many digits.
func (r *Reader) Number(k int) (int, error) {
	n, err := r.ones(k)
	if err != nil {
		return 0, err
	}
	// The digit ahead of the others is always 1 and was left out; with it no
	// number can be written in two ways.
	m := 1
	for range n {
		digit, err := r.Bit(k + digitContexts + n)
		if err != nil {
			return 0, err
		}
		m = m<<1 | digit
	}
	return m - 1, nil
}

// ones counts the bits up to the first 0.
func (r *Reader) ones(k int) (int, error) {
	for n := 0; ; n++ {
		bit, err := r.Bit(k + n)
		if err != nil {
			return 0, err
		}
		if bit == 0 {
			return n, nil
		}
		if n == mostOnes {
			return 0, ErrNumber
		}
	}
}

// Signed reads a signed number, of the contexts from k on.
func (r *Reader) Signed(k int) (int, error) {
	m, err := r.Number(k)
	if err != nil {
		return 0, err
	}
	if m%2 == 0 {
		return m / 2, nil
	}
	return -(m + 1) / 2, nil
}
