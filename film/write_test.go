package film

import (
	"slices"
	"testing"

	"flipbook/api"
	"flipbook/line"
)

// noise: pixels of which none is like another.
func noise(size, seed int) picture {
	p := newPicture(size)
	for i := range p.pixels {
		p.pixels[i] = api.Pixel{byte(i), byte(seed), byte(i * 37)}
	}
	return p
}

// leaves: the areas of the side 4 of a frame, in their order.
func leaves(a area) []area {
	if a.side == leastSide {
		return []area{a}
	}
	var l []area
	for _, q := range a.quarters() {
		l = append(l, leaves(q)...)
	}
	return l
}

// every: all areas of a frame that can be blocks.
func every(a area) []area {
	l := []area{a}
	if a.side > leastSide {
		for _, q := range a.quarters() {
			l = append(l, every(q)...)
		}
	}
	return l
}

// TestIsAhead: of each block, and each area of its side anywhere, by the pixels
// of all areas ahead.
func TestIsAhead(t *testing.T) {
	for _, size := range []int{4, 8, 16} {
		for _, b := range every(area{side: size}) {
			read := map[[2]int]int{}
			for _, l := range leaves(area{side: size}) {
				if l.x == b.x && l.y == b.y {
					break
				}
				for x, y := range l.points() {
					read[[2]int{x, y}] = 1
				}
			}
			for x, y := range (area{side: size - b.side + 1}).points() {
				a := area{x, y, b.side}
				want := true
				for x, y := range a.points() {
					want = want && read[[2]int{x, y}] == 1
				}
				if a.isAhead(b) != want {
					t.Errorf("P8: size %d: %v is ahead of %v: %t", size, a, b, !want)
				}
			}
		}
	}
}

// TestContent: the same pixels are the same key wherever they are; other pixels
// or another side make another key.
func TestContent(t *testing.T) {
	p := noise(16, 1)
	q := newPicture(16)
	for x, y := range (area{side: 8}).points() {
		q.set(x+5, y+3, p.at(x, y))
	}
	if p.content(area{0, 0, 8}) != q.content(area{5, 3, 8}) || p.content(area{1, 2, 4}) != q.content(area{6, 5, 4}) {
		t.Error("P8: the same pixels elsewhere are others")
	}
	if p.content(area{0, 0, 8}) == q.content(area{5, 4, 8}) {
		t.Error("P8: other pixels are the same")
	}
	black := newPicture(16)
	if black.content(area{side: 4}) == black.content(area{side: 8}) || black.content(area{side: 8}) == black.content(area{side: 16}) {
		t.Error("P8: areas of other sides are the same")
	}
}

// TestLookOver: each area of each side is there, and nothing else.
func TestLookOver(t *testing.T) {
	for size, want := range map[int]int{4: 1, 8: 25 + 1, 16: 169 + 81 + 1} {
		p := noise(size, 2)
		l := lookOver(p)
		if len(l) != want {
			t.Errorf("P8: size %d: %d contents, want %d", size, len(l), want)
		}
		for c, areas := range l {
			if len(areas) != 1 || p.content(areas[0]) != c {
				t.Errorf("P8: size %d: a content at %v", size, areas)
			}
		}
		plain := lookOver(newPicture(size))
		n := 0
		for _, areas := range plain {
			n += len(areas)
		}
		if n != want {
			t.Errorf("P8: a plain frame of the size %d has %d areas, want %d", size, n, want)
		}
	}
}

// TestNearest: the shortest vector of those that may be taken.
func TestNearest(t *testing.T) {
	p := newPicture(16)
	c, l := p.content(area{side: 4}), lookOver(p)
	a := area{8, 8, 4}
	for _, k := range []struct {
		may    func(area) bool
		dx, dy int
		ok     bool
	}{
		{func(area) bool { return true }, 0, 0, true},
		// Down to -7 a number has as many bits as -4 has.
		{func(from area) bool { return from.isAhead(a) }, 0, -7, true},
		{func(from area) bool { return from.y == 6 && from.x < 8 || from.y == 9 }, 0, 1, true},
		{func(from area) bool { return from.x >= 11 && from.y == 8 }, 3, 0, true},
		{func(from area) bool { return from == area{0, 0, 4} }, -8, -8, true},
		{func(from area) bool { return from == area{12, 12, 4} }, 4, 4, true},
		{func(area) bool { return false }, 0, 0, false},
	} {
		if dx, dy, ok := l.nearest(c, a, k.may); dx != k.dx || dy != k.dy || ok != k.ok {
			t.Errorf("P8: (%d, %d), %t, want (%d, %d), %t", dx, dy, ok, k.dx, k.dy, k.ok)
		}
	}
	p.set(8, 8, api.Pixel{1, 1, 1})
	if _, _, ok := l.nearest(p.content(a), a, func(area) bool { return true }); ok {
		t.Error("P8: what is nowhere was found")
	}
	if _, _, ok := places(nil).nearest(c, a, func(area) bool { return true }); ok {
		t.Error("P8: something was found ahead of the first frame")
	}
}

// TestColours: the most frequent ones first, else as they come; four at most.
func TestColours(t *testing.T) {
	a, b, c, d, e := api.Pixel{1}, api.Pixel{2}, api.Pixel{3}, api.Pixel{4}, api.Pixel{5}
	for _, k := range []struct {
		first []api.Pixel // all others are a
		want  []api.Pixel
	}{
		{nil, []api.Pixel{a}},
		{[]api.Pixel{b}, []api.Pixel{a, b}},
		{[]api.Pixel{c, b, c, b, c, b, c, b}, []api.Pixel{a, c, b}},
		{[]api.Pixel{c, b, b, d, d, d}, []api.Pixel{a, d, b, c}},
		{[]api.Pixel{d, c, b}, []api.Pixel{a, d, c, b}},
		{[]api.Pixel{d, c, b, e}, nil},
	} {
		p := newPicture(4)
		for i := range p.pixels {
			p.pixels[i] = a
		}
		copy(p.pixels, k.first)
		w := &writer{now: p}
		got, ok := w.colours(area{side: 4})
		if !slices.Equal(got, k.want) || ok != (k.want != nil) {
			t.Errorf("P8: the colours %v, %t, want %v", got, ok, k.want)
		}
	}
}

// kindOf: the kind of the block that is taken for an area.
func kindOf(t *testing.T, w *writer, a area) int {
	t.Helper()
	d := line.NewDraft()
	d.Append(w.block(d, a))
	bits, err := line.NewReader(d.Pack())
	if err != nil {
		t.Fatal(err)
	}
	r := &reader{bits: bits, size: w.now.size}
	if split, err := r.split(a); split || err != nil {
		t.Fatal(split, err)
	}
	kind, err := r.kind()
	if err != nil {
		t.Fatal(err)
	}
	return kind
}

// TestKinds: an area of each sort becomes a block of its kind.
func TestKinds(t *testing.T) {
	w := &writer{}
	w.begin(noise(16, 3))
	if kind := kindOf(t, w, area{side: 16}); kind != kindSoft {
		t.Errorf("P8: noise is of the kind %d", kind)
	}
	next := noise(16, 4)
	for x, y := range (area{side: 4}).points() {
		next.set(x+4, y, next.at(x, y))
		next.set(x+8, y+8, noise(16, 3).at(x+1, y+2))
		next.set(x, y+4, api.Pixel{255, 0, byte(x % 2)})
	}
	w.begin(next)
	for a, want := range map[area]int{
		{0, 0, 16}: kindSoft, {0, 0, 4}: kindSoft, {4, 0, 4}: kindCopy, {8, 8, 4}: kindStill, {0, 4, 4}: kindFew,
	} {
		if kind := kindOf(t, w, a); kind != want {
			t.Errorf("P8: %v is of the kind %d, want %d", a, kind, want)
		}
	}
	w.begin(next)
	if kind := kindOf(t, w, area{side: 16}); kind != kindStill {
		t.Errorf("P9: the frame once more is of the kind %d", kind)
	}
}

// TestIsFilm: the size, the count and the lengths.
func TestIsFilm(t *testing.T) {
	frame := make([]api.Pixel, 64)
	for _, c := range []struct {
		f    api.Film
		want bool
	}{
		{api.Film{}, false}, {api.Film{Size: 8}, true}, {api.Film{Size: 9}, false}, {api.Film{Size: 1 << 32}, false},
		{api.Film{Size: 1 << 32, Frames: make([][]api.Pixel, 1)}, false},
		{api.Film{Size: 8, Frames: [][]api.Pixel{frame}}, true},
		{api.Film{Size: 8, Frames: [][]api.Pixel{frame, frame[1:]}}, false},
		{api.Film{Size: 4, Frames: [][]api.Pixel{frame}}, false},
		{api.Film{Size: 8, Frames: slices.Repeat([][]api.Pixel{frame}, api.MaxFrames)}, true},
		{api.Film{Size: 8, Frames: slices.Repeat([][]api.Pixel{frame}, api.MaxFrames+1)}, false},
	} {
		if IsFilm(c.f) != c.want {
			t.Errorf("P8: size %d, %d frames: a film: %t", c.f.Size, len(c.f.Frames), !c.want)
		}
	}
}
