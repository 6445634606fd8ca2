package flipbook_test

import (
	"math/rand"
	"slices"
	"strings"
	"testing"

	"flipbook/api"
	"flipbook/flipbook"
	"flipbook/line"
)

// script is a film's line in the making.
type script struct {
	w *line.Writer
}

func begin() script { return script{line.NewWriter()} }

func (s script) bit(k int, values ...int) script {
	for _, v := range values {
		s.w.Put(k, v)
	}
	return s
}

func (s script) number(k int, l ...int) script {
	for _, m := range l {
		n := 0
		for m+1 >= 2<<n {
			s.bit(k+n, 1)
			n++
		}
		s.bit(k+n, 0)
		for i := n - 1; i >= 0; i-- {
			s.bit(k+12+n, (m+1)>>i&1)
		}
	}
	return s
}

func (s script) signed(k int, l ...int) script {
	for _, v := range l {
		if v < 0 {
			s.number(k, -2*v-1)
		} else {
			s.number(k, 2*v)
		}
	}
	return s
}

func (s script) kind(k int) script { return s.bit(2, k/2).bit(3+k/2, k%2) }

// plain: a block of one colour.
func (s script) plain(p api.Pixel) script {
	return s.kind(1).number(200, 0).number(224, int(p[0]), int(p[1]), int(p[2]))
}

func (s script) copy(dx, dy int) script { return s.kind(2).signed(260, dx).signed(284, dy) }

func (s script) still(dx, dy int) script { return s.kind(3).signed(310, dx).signed(334, dy) }

// soft: a block of a frame.
func (s script) soft(frame []api.Pixel, size int, a square) script {
	s.kind(0)
	for y := a.y; y < a.y+a.side; y++ {
		for x := a.x; x < a.x+a.side; x++ {
			c, e := flipbook.Turn(frame[y*size+x]), modelExpected(frame, size, x, y)
			for i := range c {
				s.signed(100+24*i, c[i]-e[i])
			}
		}
	}
	return s
}

func (s script) film(size, frames int) string {
	return "FB" + string([]byte{byte(size), byte(frames)}) + s.w.End()
}

// square is an area; as a list they tell how a frame is split.
type square struct {
	x, y, side int
}

// squares: the areas of a frame that is split down to the side least, in their
// order. An area of the side 8 that begins at whole stays whole.
func squares(a square, least int, whole [2]int) []square {
	if a.side == least || a.side == 4 || a.side == 8 && whole == [2]int{a.x, a.y} {
		return []square{a}
	}
	h := a.side / 2
	var l []square
	for _, d := range [][2]int{{0, 0}, {h, 0}, {0, h}, {h, h}} {
		l = append(l, squares(square{a.x + d[0], a.y + d[1], h}, least, whole)...)
	}
	return l
}

// frame: all its areas, split as the list tells; block makes those of a number.
func (s script) frame(size int, l []square, block func(i int, a square)) script {
	i := 0
	var area func(a square)
	area = func(a square) {
		whole := l[i] == a
		if a.side > 4 {
			s.bit(map[int]int{16: 0, 8: 1}[a.side], map[bool]int{true: 0, false: 1}[whole])
		}
		if whole {
			block(i, a)
			i++
			return
		}
		h := a.side / 2
		for _, d := range [][2]int{{0, 0}, {h, 0}, {0, h}, {h, h}} {
			area(square{a.x + d[0], a.y + d[1], h})
		}
	}
	area(square{0, 0, size})
	return s
}

func fill(n int, p api.Pixel) []api.Pixel { return slices.Repeat([]api.Pixel{p}, n) }

// paint: an area of a frame gets one colour.
func paint(frame []api.Pixel, size int, a square, p api.Pixel) {
	for i := range a.side * a.side {
		frame[(a.y+i/a.side)*size+a.x+i%a.side] = p
	}
}

func anyFrame(g *rand.Rand, size int) []api.Pixel {
	l := make([]api.Pixel, size*size)
	for i := range l {
		l[i] = api.Pixel{byte(g.Intn(256)), byte(g.Intn(256)), byte(g.Intn(256))}
	}
	return l
}

func sameFilm(f, g api.Film) bool {
	return f.Size == g.Size && slices.EqualFunc(f.Frames, g.Frames, slices.Equal[[]api.Pixel])
}

// checkFault: the error and its place, and nothing else.
func checkFault(t *testing.T, name, s string, place api.Place, e api.Errno) {
	t.Helper()
	f, p, got := flipbook.Decode(s)
	if f.Size != 0 || f.Frames != nil || p != place || got != e {
		t.Errorf("P7: %q: %s, %v, %d, want %v, %d", name, brief(f), p, got, place, e)
	}
}

// checkDecode: Decode answers what the model does; it tells the error.
func checkDecode(t *testing.T, name, s string) api.Errno {
	t.Helper()
	want, place, e := modelDecode(s)
	if e != api.OK {
		checkFault(t, name, s, place, e)
		return e
	}
	if f, p, got := flipbook.Decode(s); !sameFilm(f, want) || p != place || got != e {
		t.Errorf("P7: %q: %s, %v, %d, want %s", name, brief(f), p, got, brief(want))
	}
	return e
}

// checkFilm: the film of these bytes; with a byte less each of its prefixes is
// too short, with a byte more it has one too many.
func checkFilm(t *testing.T, name, s string, want api.Film) {
	t.Helper()
	f, p, e := flipbook.Decode(s)
	if !sameFilm(f, want) || p != (api.Place{}) || e != api.OK {
		t.Errorf("P7: %q: %s, %v, %d, want %s", name, brief(f), p, e, brief(want))
	}
	for _, more := range []string{"\x00", "\xff", "FB\x04\x00"} {
		checkFault(t, name+", more bytes", s+more, api.Place{}, api.ErrTrail)
	}
	for n := 4; n < len(s); n += 1 + (len(s)-n)/40 {
		if e := checkDecode(t, name+", less bytes", s[:n]); e != api.ErrShort {
			t.Errorf("P7: %q, %d bytes of %d: %d", name, n, len(s), e)
		}
	}
}

// checkCut: a line that ends with the bit at which a fault is met. Bytes behind
// it change nothing; with a byte less that is met first.
func checkCut(t *testing.T, name, s string, place api.Place, e api.Errno) {
	t.Helper()
	checkFault(t, name, s, place, e)
	checkFault(t, name+", a byte more", s+"\x00", place, e)
	checkFault(t, name+", bytes more", s+strings.Repeat("\xff", 400), place, e)
	if e := checkDecode(t, name+", a byte less", s[:len(s)-1]); e != api.ErrShort {
		t.Errorf("P7: %q, a byte less: %d", name, e)
	}
}

// TestDecodeHead: every size with every count of frames.
func TestDecodeHead(t *testing.T) {
	for size := range 256 {
		for frames := range 256 {
			if t.Failed() {
				return
			}
			s := "FB" + string([]byte{byte(size), byte(frames)}) + "\x00\x00\x00\x00"
			switch {
			case size != 4 && size != 8 && size != 16 || frames > 8:
				checkFault(t, s, s, api.Place{}, api.ErrHead)
			case frames > 0:
				checkFault(t, s, s, api.Place{}, api.ErrShort)
			default:
				checkFilm(t, s, s, api.Film{Size: size})
			}
		}
	}
	for c := range 256 {
		for at, mark := range "FB" {
			s := []byte("FB\x04\x00\x00\x00\x00\x00")
			s[at] = byte(c)
			want := api.ErrHead
			if rune(c) == mark {
				want = api.OK
			}
			if f, p, e := flipbook.Decode(string(s)); e != want || p != (api.Place{}) {
				t.Errorf("P7: Decode(%q): %v, %v, %d, want %d", s, f, p, e, want)
			}
		}
	}
}

// TestDecodeBegin: what is wrong ahead of the first area has no place.
func TestDecodeBegin(t *testing.T) {
	zeros := strings.Repeat("\x00", api.MaxBytes+1)
	for _, c := range []struct {
		s string
		e api.Errno
	}{
		{"", api.ErrHead}, {"F", api.ErrHead}, {"FB", api.ErrHead}, {"FB\x04", api.ErrHead},
		{"BF\x04\x00\x00\x00\x00\x00", api.ErrHead},
		{"FB\x05\x00", api.ErrHead}, {"FB\x04\x09", api.ErrHead},
		{"FB\x04\x00", api.ErrShort}, {"FB\x04\x08", api.ErrShort},
		{"FB\x04\x00\x01", api.ErrShort}, {"FB\x08\x00\x01\x02\x03", api.ErrShort},
		{"FB\x10\x03\xff\xff\xff", api.ErrShort},
		{"FB\x04\x00\xff\xff\xff\xff", api.ErrCode},
		{"FB\x10\x08\xff\xff\xff\xff\xff", api.ErrCode},
		{"FB\x04\x00\x00\x00\x00\x00\x00", api.ErrTrail},
		{"FB\x10\x00\xff\xff\xff\xfe\xff", api.ErrTrail},
		{"FB\x04\x01\x00\x00\x00\x00", api.ErrShort},
		{zeros, api.ErrLong}, {zeros[1:], api.ErrHead},
		{"FB\x04\x00" + zeros[4:], api.ErrLong}, {"FB\x04\x00" + zeros[5:], api.ErrTrail},
		{"FB\x04\x01" + zeros[4:], api.ErrLong},
		{"FB\x04\x00\xff\xff\xff\xff" + zeros[8:], api.ErrLong},
		{"FB\x04\x00\xff\xff\xff\xff" + zeros[9:], api.ErrCode},
		{"FB\x05\x00" + zeros[4:], api.ErrLong}, {"FB\x05\x00" + zeros[5:], api.ErrHead},
		{zeros + zeros, api.ErrLong},
	} {
		checkFault(t, c.s[:min(8, len(c.s))], c.s, api.Place{}, c.e)
	}
}

// TestDecodeNoFrame: any four bytes but four times 255.
func TestDecodeNoFrame(t *testing.T) {
	g := rand.New(rand.NewSource(7))
	four := []string{"\x00\x00\x00\x00", "\xff\xff\xff\xfe", "\xff\xff\xfe\xff", "\x00\xff\xff\xff"}
	for range 50 {
		b := make([]byte, 4)
		g.Read(b)
		four = append(four, string(b))
	}
	for _, b := range four {
		for _, size := range []int{4, 8, 16} {
			checkFilm(t, "no frame", "FB"+string([]byte{byte(size), 0})+b, api.Film{Size: size})
		}
	}
}

// TestDecodeFrames: up to MaxFrames; the contexts go on from frame to frame.
func TestDecodeFrames(t *testing.T) {
	for _, size := range []int{4, 8, 16} {
		s := begin()
		f := api.Film{Size: size}
		for n := range api.MaxFrames {
			p := api.Pixel{byte(n), byte(100 * n), 255}
			s.frame(size, []square{{0, 0, size}}, func(int, square) { s.plain(p) })
			f.Frames = append(f.Frames, fill(size*size, p))
			checkFilm(t, "frames", s.film(size, n+1), f)
		}
		checkFault(t, "too many frames", s.film(size, api.MaxFrames+1), api.Place{}, api.ErrHead)
	}
}

// TestDecodeSoft: noise has all sorts of neighbours, and needs great numbers.
func TestDecodeSoft(t *testing.T) {
	g := rand.New(rand.NewSource(77))
	for _, size := range []int{4, 8, 16} {
		for _, least := range []int{4, 8, 16} {
			s := begin()
			f := api.Film{Size: size}
			for range 3 {
				frame := anyFrame(g, size)
				s.frame(size, squares(square{0, 0, size}, least, [2]int{8, 0}), func(_ int, a square) { s.soft(frame, size, a) })
				f.Frames = append(f.Frames, frame)
			}
			checkFilm(t, "noise", s.film(size, 3), f)
		}
	}
}

// TestDecodeSoftByHand: a picture and its numbers, worked out by hand.
func TestDecodeSoftByHand(t *testing.T) {
	s := begin().kind(0)
	// (10, 20, 30) is 20 -20 0, with nothing around it
	s.signed(100, 20).signed(124, -20).signed(148, 0)
	// (200, 100, 0) is 100 200 0; expected is 20 -20 0
	s.signed(100, 80).signed(124, 220).signed(148, 0)
	// twice as expected: of Y and U the left, above there is nothing
	s.signed(100, 0).signed(124, 0).signed(148, 0)
	s.signed(100, 0).signed(124, 0).signed(148, 0)
	// (0, 0, 255) is 63 -255 -127; expected is 20 -20 0
	s.signed(100, 43).signed(124, -235).signed(148, -127)
	// (10, 20, 30) again; expected is 100 -35 -127
	s.signed(100, -80).signed(124, 15).signed(148, 127)
	// left 20 -20 0, above and corner 100 200 0: the left one is expected
	s.signed(100, 0).signed(124, 0).signed(148, 0)
	// (0, 0, 0); expected is 20 -20 0
	s.signed(100, -20).signed(124, 20).signed(148, 0)
	one, two, three := api.Pixel{10, 20, 30}, api.Pixel{200, 100, 0}, api.Pixel{0, 0, 255}
	frame := []api.Pixel{one, two, two, two, three, one, one, {}}
	// two rows of white, 255 0 0
	white := api.Pixel{255, 255, 255}
	// left nothing, above 63 -255 -127: 63, -255 and -127 are expected
	s.signed(100, 192).signed(124, 255).signed(148, 127)
	// left 255 0 0, above 20 -20 0, corner 63 -255 -127: 212, 0 and 0
	s.signed(100, 43).signed(124, 0).signed(148, 0)
	// above and corner 20 -20 0: 255 0 0
	s.signed(100, 0).signed(124, 0).signed(148, 0)
	// above 0 0 0, corner 20 -20 0: 235, 0 and 0
	s.signed(100, 20).signed(124, 0).signed(148, 0)
	for range 4 {
		s.signed(100, 0).signed(124, 0).signed(148, 0)
	}
	frame = append(frame, fill(8, white)...)
	checkFilm(t, "by hand", s.film(4, 1), api.Film{Size: 4, Frames: [][]api.Pixel{frame}})
}

// TestDecodeSoftBounds: numbers just within and just beyond the colours. The
// fault is met behind the third number.
func TestDecodeSoftBounds(t *testing.T) {
	for _, c := range []struct {
		y, u, v int
		ok      bool
	}{
		{0, 0, 0, true}, {255, 0, 0, true}, {256, 0, 0, false}, {-1, 0, 0, false},
		{0, 1, 0, true}, {0, -1, 0, true}, {0, 2, 0, false}, {0, -2, 0, false}, {63, 255, -127, true},
		{0, 0, -2, false}, {63, 256, -127, false}, {511, 0, 0, false}, {0, -511, 0, false},
		{0, 0, 511, false}, {-511, -511, -511, false}, {0, 0, 1, true}, {0, 0, -1, true}, {63, -255, -127, true},
	} {
		p, e := flipbook.Back([3]int{c.y, c.u, c.v})
		if (e == api.OK) != c.ok {
			t.Fatalf("P4: %v: %v, %d", c, p, e)
		}
		if c.ok {
			frame := append([]api.Pixel{p}, fill(15, api.Pixel{})...)
			checkFilm(t, "a soft block", begin().soft(frame, 4, square{0, 0, 4}).film(4, 1), api.Film{Size: 4, Frames: [][]api.Pixel{frame}})
			continue
		}
		s := begin().kind(0).signed(100, c.y).signed(124, c.u).signed(148, c.v)
		checkCut(t, "a soft block of no colour", s.film(4, 1), api.Place{}, api.ErrColour)
	}
}

// TestDecodeFew: one to four colours, of blocks of each side.
func TestDecodeFew(t *testing.T) {
	g := rand.New(rand.NewSource(777))
	colours := []api.Pixel{{0, 1, 255}, {255, 0, 2}, {254, 255, 3}, {0, 0, 0}}
	for _, size := range []int{4, 8, 16} {
		for count := 1; count <= 4; count++ {
			s := begin()
			if size > 4 {
				s.bit(map[int]int{16: 0, 8: 1}[size], 0)
			}
			s.kind(1).number(200, count-1)
			for _, p := range colours[:count] {
				s.number(224, int(p[0]), int(p[1]), int(p[2]))
			}
			frame := make([]api.Pixel, size*size)
			for i := range frame {
				which := g.Intn(count)
				for k := range which {
					s.bit(250+k, 1)
				}
				if which < count-1 {
					s.bit(250+which, 0)
				}
				frame[i] = colours[which]
			}
			checkFilm(t, "few", s.film(size, 1), api.Film{Size: size, Frames: [][]api.Pixel{frame}})
		}
	}
}

// TestDecodeFewFaults: too many colours; a value that no colour has, as soon
// as it is read.
func TestDecodeFewFaults(t *testing.T) {
	for _, n := range []int{4, 5, 6, 255, 511, 1022} {
		checkCut(t, "too many colours", begin().kind(1).number(200, n).film(4, 1), api.Place{}, api.ErrNumber)
	}
	for _, v := range []int{256, 257, 510, 511, 1022} {
		for ahead := range 12 {
			s := begin().bit(1, 1).plain(api.Pixel{}).kind(1).number(200, 3)
			for range ahead {
				s.number(224, 255)
			}
			checkCut(t, "no colour", s.number(224, v).film(8, 1), api.Place{X: 4}, api.ErrColour)
		}
	}
}

// TestDecodeTenth: the tenth one of each number that a block has.
func TestDecodeTenth(t *testing.T) {
	for name, c := range map[string]struct {
		s script
		k int
	}{
		"Y":              {begin().kind(0), 100},
		"U":              {begin().kind(0).signed(100, 0), 124},
		"V":              {begin().kind(0).signed(100, 0).signed(124, 0), 148},
		"second Y":       {begin().kind(0).signed(100, 5).signed(124, 0).signed(148, 0), 100},
		"count":          {begin().kind(1), 200},
		"red":            {begin().kind(1).number(200, 0), 224},
		"green":          {begin().kind(1).number(200, 0).number(224, 255), 224},
		"second colour":  {begin().kind(1).number(200, 1).number(224, 0, 0, 0), 224},
		"dx":             {begin().kind(2), 260},
		"dy":             {begin().kind(2).signed(260, 511), 284},
		"second frame":   {begin().plain(api.Pixel{}).kind(3), 310},
		"second frame's": {begin().plain(api.Pixel{}).kind(3).signed(310, -511), 334},
	} {
		for i := range 10 {
			c.s.bit(c.k+i, 1)
		}
		place := api.Place{}
		if strings.HasPrefix(name, "second frame") {
			place.Frame = 1
		}
		checkCut(t, "ten ones: "+name, c.s.film(4, 2), place, api.ErrNumber)
	}
}

// vectors: all that lead within a frame of the size 16, and some beyond.
func vectors() []int {
	l := []int{-511, -256, 256, 511}
	for d := -17; d <= 17; d++ {
		l = append(l, d)
	}
	return l
}

// manySplits: frames of areas of all sides.
func manySplits() map[int][][]square {
	return map[int][][]square{
		4: {squares(square{0, 0, 4}, 4, [2]int{})},
		8: {squares(square{0, 0, 8}, 8, [2]int{}), squares(square{0, 0, 8}, 4, [2]int{9, 9})},
		16: {
			squares(square{0, 0, 16}, 16, [2]int{}), squares(square{0, 0, 16}, 8, [2]int{}), squares(square{0, 0, 16}, 4, [2]int{9, 9}),
			squares(square{0, 0, 16}, 4, [2]int{8, 0}), squares(square{0, 0, 16}, 4, [2]int{0, 8}), squares(square{0, 0, 16}, 4, [2]int{8, 8}),
		},
	}
}

// moved: a frame with an area made of another's.
func moved(frame, from []api.Pixel, size int, a square, dx, dy int) []api.Pixel {
	l := slices.Clone(frame)
	for i := range a.side * a.side {
		x, y := a.x+i%a.side, a.y+i/a.side
		l[y*size+x] = from[(y+dy)*size+x+dx]
	}
	return l
}

// within: whether the area that a vector leads to is within a frame, and, of
// each of its pixels, at ok.
func within(size int, a square, dx, dy int, ok func(x, y int) bool) bool {
	for i := range a.side * a.side {
		x, y := a.x+i%a.side+dx, a.y+i/a.side+dy
		if x < 0 || y < 0 || x >= size || y >= size || !ok(x, y) {
			return false
		}
	}
	return true
}

// TestDecodeCopy: each area of frames of all splits, with each vector: only
// what was read ahead of the block can be copied.
func TestDecodeCopy(t *testing.T) {
	for size, splits := range manySplits() {
		for _, l := range splits {
			for n := range l {
				copyFrom(t, size, l, n)
			}
		}
	}
}

// tint: a colour for each area of a frame; a window onto some of them tells
// where it is.
func tint(n int) api.Pixel { return api.Pixel{byte(15 * n), byte(n), byte(255 - 10*n)} }

// copyFrom: the area n of the list with each vector.
func copyFrom(t *testing.T, size int, l []square, n int) {
	a := l[n]
	frame := make([]api.Pixel, size*size)
	read := map[[2]int]bool{}
	for i, b := range l {
		paint(frame, size, b, tint(i))
		if i < n {
			within(size, b, 0, 0, func(x, y int) bool { read[[2]int{x, y}] = true; return true })
		}
	}
	for _, dx := range vectors() {
		for _, dy := range vectors() {
			if t.Failed() {
				return
			}
			s := begin()
			s.frame(size, l, func(i int, b square) {
				if i == n {
					s.copy(dx, dy)
				} else {
					s.plain(tint(i))
				}
			})
			bytes := s.film(size, 1)
			if !within(size, a, dx, dy, func(x, y int) bool { return read[[2]int{x, y}] }) {
				checkFault(t, "a copy", bytes, api.Place{X: a.x, Y: a.y}, api.ErrVector)
				continue
			}
			f, _, e := flipbook.Decode(bytes)
			if want := moved(frame, frame, size, a, dx, dy); e != api.OK || !slices.Equal(f.Frames[0], want) {
				t.Errorf("P7: a copy of %v from (%d, %d): %d", a, dx, dy, e)
			}
		}
	}
}

// TestDecodeStill: each area of frames of all splits, with each vector, from
// the frame before, not from this one or the one before that.
func TestDecodeStill(t *testing.T) {
	for size, splits := range manySplits() {
		for _, l := range splits {
			for n, a := range l {
				for _, dx := range vectors() {
					for _, dy := range vectors() {
						if t.Failed() {
							return
						}
						stillFrom(t, size, l, n, dx, dy)
					}
				}
				checkFirst(t, size, l, n, a)
			}
		}
	}
}

func stillFrom(t *testing.T, size int, l []square, n, dx, dy int) {
	whole := []square{{0, 0, size}}
	small := squares(whole[0], 4, [2]int{9, 9})
	before := make([]api.Pixel, size*size)
	s := begin()
	s.frame(size, whole, func(int, square) { s.plain(api.Pixel{1, 2, 3}) })
	s.frame(size, small, func(i int, b square) {
		s.plain(tint(i))
		paint(before, size, b, tint(i))
	})
	s.frame(size, l, func(i int, _ square) {
		if i == n {
			s.still(dx, dy)
		} else {
			s.plain(api.Pixel{4, 5, 6})
		}
	})
	a := l[n]
	if !within(size, a, dx, dy, func(int, int) bool { return true }) {
		checkFault(t, "a still block", s.film(size, 3), api.Place{Frame: 2, X: a.x, Y: a.y}, api.ErrVector)
		return
	}
	f, _, e := flipbook.Decode(s.film(size, 3))
	want := moved(fill(size*size, api.Pixel{4, 5, 6}), before, size, a, dx, dy)
	if e != api.OK || !slices.Equal(f.Frames[1], before) || !slices.Equal(f.Frames[2], want) {
		t.Errorf("P7: a still block %v from (%d, %d): %d", a, dx, dy, e)
	}
}

// checkFirst: in the first frame the kind itself is the fault.
func checkFirst(t *testing.T, size int, l []square, n int, a square) {
	s := begin()
	cut := ""
	s.frame(size, l, func(i int, _ square) {
		if i != n {
			s.plain(api.Pixel{7, 8, 9})
			return
		}
		s.kind(3)
		cut = s.film(size, 2)
		s.signed(310, 0).signed(334, 0)
	})
	place := api.Place{X: a.x, Y: a.y}
	checkCut(t, "still in the first frame", cut, place, api.ErrFirst)
	checkFault(t, "still in the first frame, whole", s.film(size, 2), place, api.ErrFirst)
}

// TestDecodeVectorCut: a vector is judged behind its second number.
func TestDecodeVectorCut(t *testing.T) {
	first := begin().bit(1, 1).plain(api.Pixel{}).copy(-5, 0)
	checkCut(t, "a copy from outside", first.film(8, 1), api.Place{X: 4}, api.ErrVector)
	second := begin().bit(1, 1).plain(api.Pixel{}).copy(-3, 0)
	checkCut(t, "a copy from what is not read", second.film(8, 1), api.Place{X: 4}, api.ErrVector)
	third := begin().plain(api.Pixel{}).still(0, 1)
	checkCut(t, "still from outside", third.film(4, 2), api.Place{Frame: 1}, api.ErrVector)
}

// TestDecodePlaces: every prefix of a film of many areas ends in the one that
// needs the byte, be it for its split, its kind or what is behind.
func TestDecodePlaces(t *testing.T) {
	g := rand.New(rand.NewSource(8))
	s := begin()
	l := squares(square{0, 0, 16}, 4, [2]int{8, 0})
	needs := map[int]api.Place{} // by the bytes that are there before
	length := 0
	note := func(place api.Place) {
		for ; length < len(s.film(16, 3)); length++ {
			if length >= 8 {
				needs[length] = place
			}
		}
	}
	note(api.Place{})
	for n := range 3 {
		frame := anyFrame(g, 16)
		s.frame(16, l, func(i int, a square) {
			// The splits ahead of the block are of areas that begin here, too.
			note(api.Place{Frame: n, X: a.x, Y: a.y})
			if i%3 == 0 {
				paint(frame, 16, a, tint(i))
				s.plain(tint(i))
			} else {
				s.soft(frame, 16, a)
			}
			note(api.Place{Frame: n, X: a.x, Y: a.y})
		})
	}
	for n, place := range needs {
		checkFault(t, "cut", s.film(16, 3)[:n], place, api.ErrShort)
	}
}
