package flipbook_test

import (
	"math/rand"
	"slices"
	"strings"
	"testing"

	"flipbook/api"
	"flipbook/flipbook"
)

// anyLine makes a line up bit by bit, as the model asks for them: each context
// has a lean of its own, most of them so that numbers stay small. It tells the
// bytes of what was asked for, up to the first fault.
func anyLine(g *rand.Rand, size, frames int) string {
	s := begin()
	var leans [400]float64
	for k := range leans {
		leans[k] = []float64{0.01, 0.1, 0.2, 0.5}[g.Intn(4)]
	}
	for k := range 5 {
		leans[k] = []float64{0.1, 0.3, 0.5, 0.9}[g.Intn(4)]
	}
	if g.Intn(2) == 0 {
		// Soft blocks of greys that grow brighter seldom have a fault.
		for k := 124; k < 172; k++ {
			leans[k] = 0
		}
		for k := 112; k < 122; k++ {
			leans[k] = 1
		}
	}
	m := &modelFilm{size: size, next: func(k int) (int, api.Errno) {
		v := 0
		if g.Float64() < leans[k] {
			v = 1
		}
		s.bit(k, v)
		return v, api.OK
	}}
	m.readFilm(frames)
	return s.film(size, frames)
}

// TestDecodeAny: films and faults of all sorts, whole, cut and changed.
func TestDecodeAny(t *testing.T) {
	g := rand.New(rand.NewSource(78))
	met := map[api.Errno]int{}
	for n := range 4000 {
		if t.Failed() {
			return
		}
		s := anyLine(g, []int{4, 8, 16}[n%3], g.Intn(4))
		met[checkDecode(t, "any line", s)]++
		met[checkDecode(t, "any line, cut", s[:g.Intn(len(s)+1)])]++
		b := []byte(s + strings.Repeat("\xa5", g.Intn(20)))
		met[checkDecode(t, "any line, more", string(b))]++
		b[g.Intn(len(b))] = byte(g.Intn(256))
		met[checkDecode(t, "any line, changed", string(b))]++
	}
	for _, e := range []api.Errno{api.OK, api.ErrColour, api.ErrHead, api.ErrShort, api.ErrTrail, api.ErrNumber, api.ErrVector, api.ErrFirst} {
		if met[e] < 10 {
			t.Errorf("the error %d was met %d times", e, met[e])
		}
	}
}

// TestDecodeNoise: bytes without any sense.
func TestDecodeNoise(t *testing.T) {
	g := rand.New(rand.NewSource(79))
	for n := range 4000 {
		if t.Failed() {
			return
		}
		b := make([]byte, g.Intn(300))
		g.Read(b)
		if n%4 == 0 {
			clear(b)
		}
		checkDecode(t, "noise", string(b))
		head := "FB" + string([]byte{[]byte{4, 8, 16}[g.Intn(3)], byte(g.Intn(9))})
		checkDecode(t, "noise behind a head", head+string(b))
	}
	for _, c := range []string{"\x00", "\xff", "\x55", "F"} {
		for _, head := range []string{"FB\x04\x08", "FB\x08\x08", "FB\x10\x08\xff\xff\xff\xfe"} {
			checkDecode(t, "one byte over and over", head+strings.Repeat(c, api.MaxBytes-len(head)))
		}
	}
}

// TestDecodeMemory: no two frames share memory, nor do two answers, nor their
// spare room.
func TestDecodeMemory(t *testing.T) {
	s := begin().plain(api.Pixel{1, 2, 3}).still(0, 0).still(0, 0).film(4, 3)
	want := api.Film{Size: 4, Frames: [][]api.Pixel{fill(16, api.Pixel{1, 2, 3}), fill(16, api.Pixel{1, 2, 3}), fill(16, api.Pixel{1, 2, 3})}}
	first, _, _ := flipbook.Decode(s)
	second, _, _ := flipbook.Decode(s)
	if !sameFilm(first, want) || !sameFilm(second, want) {
		t.Fatalf("P7: %v, %v", first, second)
	}
	for n, frame := range first.Frames {
		full := frame[:cap(frame)]
		for i := range full {
			full[i] = api.Pixel{9, 9, byte(n)}
		}
		for _, other := range first.Frames[n+1:] {
			if !slices.Equal(other, want.Frames[0]) {
				t.Errorf("P2: frame %d shares memory: %v", n, other)
			}
		}
	}
	for n, frame := range first.Frames {
		if !slices.Equal(frame, fill(16, api.Pixel{9, 9, byte(n)})) {
			t.Errorf("P2: frame %d became %v", n, frame)
		}
	}
	clear(first.Frames[:cap(first.Frames)])
	if !sameFilm(second, want) {
		t.Errorf("P2: the second answer became %v", second)
	}
	if third, p, e := flipbook.Decode(s); !sameFilm(third, want) || p != (api.Place{}) || e != api.OK {
		t.Errorf("P2: a third answer: %v, %v, %d", third, p, e)
	}
}
