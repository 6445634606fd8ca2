package line

import (
	"math/rand"
	"testing"
)

// TestDraftPack: a draft of pieces has the bytes of its bits, one by one.
func TestDraftPack(t *testing.T) {
	g := rand.New(rand.NewSource(90))
	for range 200 {
		d, w := NewDraft(), NewWriter()
		for range g.Intn(6) {
			piece := d.Next()
			for range g.Intn(200) {
				k, bit := g.Intn(3)*199, g.Intn(5)/4
				piece.Put(k, bit)
				w.Put(k, bit)
			}
			d.Append(piece)
		}
		if d.Pack() != w.End() || d.course != w.course || d.shifts != len(w.out) {
			t.Fatalf("P8: a draft: %q, %d shifts, want %q", d.Pack(), d.shifts, w.End())
		}
	}
}

// TestDraftTried: drafts that go on from the same bit do not disturb each other,
// nor the one that they go on from.
func TestDraftTried(t *testing.T) {
	d := NewDraft()
	for range 20 {
		d.Put(5, 1)
		d.Put(6, 0)
	}
	first, second := d.Next(), d.Next()
	for range 100 {
		first.Put(5, 0)
		second.Put(6, 0)
	}
	want := NewWriter()
	for range 20 {
		want.Put(5, 1)
		want.Put(6, 0)
	}
	if d.Pack() != want.End() || d.course != want.course {
		t.Errorf("P8: behind two tries: %q, want %q", d.Pack(), want.End())
	}
	for range 100 {
		want.Put(6, 0)
	}
	d.Append(second)
	if d.Pack() != want.End() || d.course != want.course {
		t.Errorf("P8: with the second try: %q, want %q", d.Pack(), want.End())
	}
	if !second.Lighter(first) || first.Lighter(second) {
		t.Error("P8: bits against all chances are the lighter ones")
	}
}

// TestDraftLighter: the lighter one of two is so by its bytes, or by the room in
// the last of them; none is lighter than itself.
func TestDraftLighter(t *testing.T) {
	g := rand.New(rand.NewSource(91))
	var l []*Draft
	for range 60 {
		d := NewDraft()
		for range g.Intn(100) {
			d.Put(g.Intn(2), g.Intn(4)/3)
		}
		l = append(l, d)
	}
	for _, a := range l {
		for _, b := range l {
			m, n := len(a.Pack()), len(b.Pack())
			want := m < n || m == n && a.span > b.span
			if a.Lighter(b) != want {
				t.Errorf("P8: %d bytes and the range %d, %d and %d: lighter: %t", m, a.span, n, b.span, !want)
			}
		}
	}
}

// TestDraftNumbers: numbers that are put are read again, each with the contexts
// of its own.
func TestDraftNumbers(t *testing.T) {
	d := NewDraft()
	for m := range 1023 {
		d.PutNumber(10, m)
		d.PutSigned(376, m-511)
		one := NewDraft()
		one.PutSigned(7, m-511)
		if len(one.bits) != SignedBits(m-511) {
			t.Errorf("P8: %d has %d bits, not %d", m-511, len(one.bits), SignedBits(m-511))
		}
	}
	r := begin(t, d.Pack())
	for m := range 1023 {
		if got, err := r.Number(10); got != m || err != nil {
			t.Fatalf("P8: the number %d: %d, %v", m, got, err)
		}
		if got, err := r.Signed(376); got != m-511 || err != nil {
			t.Fatalf("P8: the signed number %d: %d, %v", m-511, got, err)
		}
	}
	if err := r.End(); err != nil || r.chances != d.chances {
		t.Errorf("P8: behind all numbers: %v", err)
	}
}
