package line

import (
	"errors"
	"strings"
	"testing"
)

// number puts a number of the contexts from k on.
func number(w *Writer, k, m int) {
	n := 0
	for m+1 >= 2<<n {
		n++
	}
	ones(w, k, n)
	w.Put(k+n, 0)
	for i := n - 1; i >= 0; i-- {
		w.Put(k+12+n, (m+1)>>i&1)
	}
}

// ones puts so many ones, each of a context of its own.
func ones(w *Writer, k, n int) {
	for i := range n {
		w.Put(k+i, 1)
	}
}

func begin(t *testing.T, b string) *Reader {
	t.Helper()
	r, err := NewReader(b)
	if err != nil {
		t.Fatal(err)
	}
	return r
}

// TestNumbers: all of them, one by one and as one line, up to the last context.
func TestNumbers(t *testing.T) {
	all := NewWriter()
	for m := range 1023 {
		w := NewWriter()
		number(w, 376, m)
		number(all, 376, m)
		r := begin(t, w.End())
		if got, err := r.Number(376); got != m || err != nil || r.End() != nil {
			t.Errorf("P7: the number %d: %d, %v, %v", m, got, err, r.End())
		}
	}
	r := begin(t, all.End())
	for m := range 1023 {
		if got, err := r.Number(376); got != m || err != nil {
			t.Fatalf("P7: the number %d of a row: %d, %v", m, got, err)
		}
	}
	if err := r.End(); err != nil {
		t.Errorf("P7: behind a row of numbers: %v", err)
	}
}

// TestNumberByHand: bits and the numbers that the document makes of them.
func TestNumberByHand(t *testing.T) {
	for _, c := range []struct {
		ones, digits string
		want, signed int
	}{
		{"", "", 0, 0},
		{"1", "0", 1, -1},
		{"1", "1", 2, 1},
		{"11", "00", 3, -2},
		{"11", "01", 4, 2},
		{"11", "10", 5, -3},
		{"11", "11", 6, 3},
		{"111", "100", 11, -6},
		{"11111111", "00000000", 255, -128},
		{"11111111", "00000001", 256, 128},
		{"111111111", "000000000", 511, -256},
		{"111111111", "111111110", 1021, -511},
		{"111111111", "111111111", 1022, 511},
	} {
		w := NewWriter()
		n := len(c.ones)
		ones(w, 100, n)
		w.Put(100+n, 0)
		for _, d := range c.digits {
			w.Put(112+n, int(d-'0'))
		}
		r := begin(t, w.End())
		if got, err := r.Number(100); got != c.want || err != nil || r.End() != nil {
			t.Errorf("P7: %s0%s: %d, %v, %v, want %d", c.ones, c.digits, got, err, r.End(), c.want)
		}
		if r.chances != w.chances {
			t.Errorf("P7: %s0%s: read with other contexts", c.ones, c.digits)
		}
		r = begin(t, w.End())
		if got, err := r.Signed(100); got != c.signed || err != nil {
			t.Errorf("P7: %s0%s, signed: %d, %v, want %d", c.ones, c.digits, got, err, c.signed)
		}
	}
}

// TestTenthOne: it is too much, but a byte that it needs is missed first. The
// bits ahead of it decide which bit needs one.
func TestTenthOne(t *testing.T) {
	last := 0
	for ahead := range 9 {
		w := NewWriter()
		ones(w, 50, ahead)
		ones(w, 0, 9)
		nine := len(w.out)
		w.Put(9, 1)
		b := w.End()
		for _, c := range []struct {
			name, b string
			want    error
		}{
			{"whole", b, ErrNumber},
			{"a byte more", b + "\x00", ErrNumber},
			{"a byte less", b[:len(b)-1], ErrShort},
		} {
			for _, read := range []func(*Reader, int) (int, error){(*Reader).Number, (*Reader).Signed} {
				r := begin(t, c.b)
				for i := range ahead {
					r.Bit(50 + i)
				}
				if m, err := read(r, 0); m != 0 || !errors.Is(err, c.want) {
					t.Errorf("P7: ten ones behind %d bits, %s: %d, %v, want %v", ahead, c.name, m, err, c.want)
				}
			}
		}
		if len(w.out) > nine {
			last++
		}
	}
	if last == 0 {
		t.Error("the tenth one needed a byte nowhere")
	}
}

// TestNumberShort: a number whose bytes end within it.
func TestNumberShort(t *testing.T) {
	w := NewWriter()
	number(w, 0, 1022)
	b := w.End()
	for n := 4; n < len(b); n++ {
		if m, err := begin(t, b[:n]).Number(0); m != 0 || !errors.Is(err, ErrShort) {
			t.Errorf("P7: %d bytes of %d: %d, %v", n, len(b), m, err)
		}
	}
	if m, err := begin(t, strings.Repeat("\x00", 4)).Signed(0); m != 0 || err != nil {
		t.Errorf("P7: a 0 alone: %d, %v", m, err)
	}
}
