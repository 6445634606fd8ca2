package line

import (
	"errors"
	"slices"
	"strings"
	"testing"

	"flipbook/api"
)

// TestChanceEnds: with bits of one sort a chance goes on to 4065 or 31 and
// stays there, so that no cut is ever empty or all.
func TestChanceEnds(t *testing.T) {
	for bit, want := range []uint32{4065, 31} {
		c := newChances()
		for n := range 150 {
			if moved := c[7] != want; moved != (n < 149) {
				t.Fatalf("P6: bits %d: the chance behind %d of them: %d", bit, n, c[7])
			}
			c.learn(7, bit)
		}
		if c[7] != want || c[6] != even || c[8] != even {
			t.Errorf("P6: bits %d: the chance %d, want %d; beside it %d, %d", bit, c[7], want, c[6], c[8])
		}
		for _, span := range []uint32{least, least + 1, whole} {
			if cut := c.cut(span, 7); cut == 0 || cut >= span {
				t.Errorf("P6: the chance %d cuts %d at %d", want, span, cut)
			}
		}
	}
}

// TestChanceSteps: the steps are whole parts.
func TestChanceSteps(t *testing.T) {
	c := newChances()
	got := []uint32{c[0]}
	for _, bit := range []int{0, 0, 1, 1, 1} {
		c.learn(0, bit)
		got = append(got, c[0])
	}
	// 2048/32 is 64; 1984/32 is 62; 2174/32 is 67.9; 2107/32 is 65.8; 2042/32 is 63.8
	if want := []uint32{2048, 2112, 2174, 2107, 2042, 1979}; !slices.Equal(got, want) {
		t.Errorf("P6: the chances %v, want %v", got, want)
	}
}

func TestIsContext(t *testing.T) {
	for k, want := range map[int]bool{-1 << 63: false, -1: false, 0: true, api.Chances - 1: true, api.Chances: false, 1<<63 - 1: false} {
		if IsContext(k) != want {
			t.Errorf("P5, P6: IsContext(%d) = %t", k, !want)
		}
	}
}

// bitsOf tells the bits of the context 0 that take the whole of a line.
func bitsOf(t *testing.T, b string) []int {
	t.Helper()
	r, err := NewReader(b)
	if err != nil {
		t.Fatal(err)
	}
	var l []int
	for r.rest != "" {
		bit, err := r.Bit(0)
		if err != nil {
			t.Fatal(err)
		}
		l = append(l, bit)
	}
	return l
}

// TestCarry: a line close above a round number. Its writer has many bytes 255
// out before a bit lifts it above that, and all of them have to turn over.
func TestCarry(t *testing.T) {
	for _, zeros := range []int{2, 3, 4, 6, 40} {
		want := "\x40" + strings.Repeat("\x00", zeros)
		b := want + "\x80" + strings.Repeat("\x00", 7)
		w := NewWriter()
		longest := 0
		for _, bit := range bitsOf(t, b) {
			over := string(w.out)
			w.Put(0, bit)
			if len(over) > 1 && w.out[0] != over[0] {
				longest = len(over) - 1
			}
		}
		if longest < zeros-1 || !strings.HasPrefix(w.End(), want) {
			t.Errorf("P5: %d zeros: a carry over %d bytes; the line %q, want that of %q", zeros, longest, w.End(), b)
		}
		if len(w.End()) != len(b) {
			t.Errorf("P5: %d zeros: %d bytes, want %d", zeros, len(w.End()), len(b))
		}
	}
}

// TestEndAgain: what End tells is not changed by what is put behind it.
func TestEndAgain(t *testing.T) {
	w := NewWriter()
	for range 30 {
		w.Put(1, 1)
		w.Put(1, 0)
	}
	b := w.End()
	kept := strings.Clone(b)
	for range 30 {
		w.Put(2, 1)
	}
	if b != kept || w.End() == b {
		t.Errorf("%q became %q", kept, b)
	}
}

func TestFaults(t *testing.T) {
	for _, c := range []struct {
		b    string
		want error
	}{
		{"", ErrShort}, {"\x00", ErrShort}, {"\xff\xff\xff", ErrShort},
		{"\xff\xff\xff\xff", ErrCode}, {"\xff\xff\xff\xff\xff", ErrCode},
		{"\xff\xff\xff\xfe", nil}, {"\x00\x00\x00\x00\x00", nil},
	} {
		if r, err := NewReader(c.b); !errors.Is(err, c.want) || (r == nil) != (err != nil) {
			t.Errorf("P6: NewReader(%q): %v, want %v", c.b, err, c.want)
		}
	}
	r, _ := NewReader("\x00\x00\x00\x00\x00")
	if err := r.End(); !errors.Is(err, ErrTrail) {
		t.Errorf("P6: a byte is left: %v", err)
	}
	for k := range 8 {
		if _, err := r.Bit(k); err != nil {
			t.Errorf("P6: bit %d: %v", k, err)
		}
	}
	if err := r.End(); err != nil {
		t.Errorf("P6: no byte is left: %v", err)
	}
	for k := range 8 {
		if bit, err := r.Bit(8 + k); (err != nil) != (k == 7) || err != nil && (bit != 0 || !errors.Is(err, ErrShort)) {
			t.Errorf("P6: bit %d: %d, %v", 8+k, bit, err)
		}
	}
}
