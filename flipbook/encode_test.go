package flipbook_test

import (
	"math"
	"math/rand"
	"slices"
	"strings"
	"sync"
	"testing"

	"flipbook/api"
	"flipbook/flipbook"
)

// mark is what stands in the spare room of lists that are handed in.
var mark = api.Pixel{1, 99, 201}

// roomy: a copy of a film, with spare room behind its lists.
func roomy(f api.Film) api.Film {
	frames := make([][]api.Pixel, 0, len(f.Frames)+2)
	for _, frame := range f.Frames {
		full := fill(len(frame)+2, mark)
		copy(full, frame)
		frames = append(frames, full[:len(frame)])
	}
	frames = append(frames, fill(3, mark), fill(f.Size*f.Size, mark))
	return api.Film{Size: f.Size, Frames: frames[:len(f.Frames)]}
}

// isUntouched: whether a roomy copy is what it was at first, its spare room too.
func isUntouched(given, f api.Film) bool {
	for _, frame := range given.Frames {
		if !slices.Equal(frame[len(frame):cap(frame)], fill(2, mark)) {
			return false
		}
	}
	spare := given.Frames[len(given.Frames):cap(given.Frames)]
	return sameFilm(given, f) && slices.Equal(spare[0], fill(3, mark)) && slices.Equal(spare[1], fill(f.Size*f.Size, mark))
}

// checkEncode: bytes of which Decode and the model make the film; they are the
// same ones every time. It tells them.
func checkEncode(t *testing.T, name string, f api.Film) string {
	t.Helper()
	given := roomy(f)
	s, e := flipbook.Encode(given)
	if e != api.OK || len(s) < 8 || len(s) > 120000 {
		t.Fatalf("P8: %s: size %d, %d frames: %d bytes, %d", name, f.Size, len(f.Frames), len(s), e)
	}
	if !isUntouched(given, f) {
		t.Errorf("P2: %s: Encode wrote into the film", name)
	}
	kept := strings.Clone(s)
	for _, frame := range given.Frames {
		clear(frame[:cap(frame)])
	}
	clear(given.Frames[:cap(given.Frames)])
	if again, e := flipbook.Encode(f); s != kept || again != s || e != api.OK {
		t.Errorf("P2: %s: another answer to the same film: %q, %q", name, brief(s), brief(again))
	}
	if g, p, e := flipbook.Decode(s); !sameFilm(g, f) || p != (api.Place{}) || e != api.OK {
		t.Errorf("P8: %s: size %d, %d frames: %v, %d, another film: %s", name, f.Size, len(f.Frames), p, e, brief(g))
	}
	if g, p, e := modelDecode(s); !sameFilm(g, f) || e != api.OK {
		t.Errorf("P8: %s: by the document's words %v, %d, %s", name, p, e, brief(g))
	}
	return s
}

// maker makes the next frame of a film.
type maker func(g *rand.Rand, f api.Film) []api.Pixel

// corners: the colours whose values are 0 or 255.
func corners() []api.Pixel {
	var l []api.Pixel
	for n := range 8 {
		l = append(l, api.Pixel{byte(n & 1 * 255), byte(n >> 1 & 1 * 255), byte(n >> 2 & 1 * 255)})
	}
	return l
}

// amongst: each pixel is one of these colours.
func amongst(g *rand.Rand, size int, colours []api.Pixel) []api.Pixel {
	l := make([]api.Pixel, size*size)
	for i := range l {
		l[i] = colours[g.Intn(len(colours))]
	}
	return l
}

func anyOf(g *rand.Rand, f api.Film) []api.Pixel { return anyFrame(g, f.Size) }

func plainOf(g *rand.Rand, f api.Film) []api.Pixel {
	return fill(f.Size*f.Size, anyFrame(g, 4)[0])
}

func cornersOf(g *rand.Rand, f api.Film) []api.Pixel { return amongst(g, f.Size, corners()) }

// fewOf: so many colours.
func fewOf(count int) maker {
	return func(g *rand.Rand, f api.Film) []api.Pixel { return amongst(g, f.Size, anyFrame(g, 4)[:count]) }
}

// softOf: colours that go over into each other, a little rough.
func softOf(g *rand.Rand, f api.Film) []api.Pixel {
	l := make([]api.Pixel, f.Size*f.Size)
	a, b := g.Intn(8), g.Intn(8)
	for i := range l {
		x, y := i%f.Size, i/f.Size
		l[i] = api.Pixel{byte(a*x + b*y), byte(100 + b*x + g.Intn(2)), byte(255 - a*y)}
	}
	return l
}

// patchesOf: areas of the side 4, each a colour or a piece of noise, of which
// there are but three.
func patchesOf(g *rand.Rand, f api.Film) []api.Pixel {
	l := make([]api.Pixel, f.Size*f.Size)
	kinds := [][]api.Pixel{anyFrame(g, 4), anyFrame(g, 4), fill(16, anyFrame(g, 4)[0])}
	for _, a := range squares(square{0, 0, f.Size}, 4, [2]int{99, 99}) {
		patch := kinds[g.Intn(3)]
		for i := range 16 {
			l[(a.y+i/4)*f.Size+a.x+i%4] = patch[i]
		}
	}
	return l
}

// stillOf: the frame before.
func stillOf(g *rand.Rand, f api.Film) []api.Pixel {
	if len(f.Frames) == 0 {
		return anyOf(g, f)
	}
	return slices.Clone(f.Frames[len(f.Frames)-1])
}

// shiftOf: the frame before, moved by up to three pixels, with new ones at the
// rims.
func shiftOf(g *rand.Rand, f api.Film) []api.Pixel {
	l := anyOf(g, f)
	if len(f.Frames) == 0 {
		return l
	}
	before := f.Frames[len(f.Frames)-1]
	dx, dy := g.Intn(7)-3, g.Intn(7)-3
	for i := range l {
		x, y := i%f.Size+dx, i/f.Size+dy
		if x >= 0 && y >= 0 && x < f.Size && y < f.Size {
			l[i] = before[y*f.Size+x]
		}
	}
	return l
}

// touchOf: the frame before, but for one pixel.
func touchOf(g *rand.Rand, f api.Film) []api.Pixel {
	l := stillOf(g, f)
	l[g.Intn(len(l))][g.Intn(3)]++
	return l
}

func makers() map[string]maker {
	return map[string]maker{
		"any": anyOf, "plain": plainOf, "corners": cornersOf, "soft": softOf, "patches": patchesOf,
		"two": fewOf(2), "three": fewOf(3), "four": fewOf(4), "five": fewOf(5),
		"still": stillOf, "shift": shiftOf, "touch": touchOf,
	}
}

// makerNames: in one order for every run.
func makerNames() []string {
	var l []string
	for name := range makers() {
		l = append(l, name)
	}
	slices.Sort(l)
	return l
}

// mixed: a film of so many frames of all sorts.
func mixed(g *rand.Rand, size, frames int) api.Film {
	f := api.Film{Size: size}
	names := makerNames()
	for range frames {
		f.Frames = append(f.Frames, makers()[names[g.Intn(len(names))]](g, f))
	}
	return f
}

func sizes() []int { return []int{4, 8, 16} }

// TestEncodeNoFrame: a list of nothing, and none.
func TestEncodeNoFrame(t *testing.T) {
	for _, size := range sizes() {
		for _, frames := range [][][]api.Pixel{nil, {}} {
			if s := checkEncode(t, "no frame", api.Film{Size: size, Frames: frames}); len(s) != 8 || s[:4] != "FB"+string([]byte{byte(size), 0}) {
				t.Errorf("P8: no frame of the size %d: %q", size, s)
			}
		}
	}
}

// TestEncodeSorts: films of each sort, of each size, of one to MaxFrames frames.
func TestEncodeSorts(t *testing.T) {
	g := rand.New(rand.NewSource(80))
	for _, size := range sizes() {
		for _, name := range makerNames() {
			f := api.Film{Size: size}
			for range api.MaxFrames {
				f.Frames = append(f.Frames, makers()[name](g, f))
				checkEncode(t, name, f)
			}
		}
	}
}

// TestEncodeMixed: frames of all sorts behind each other.
func TestEncodeMixed(t *testing.T) {
	g := rand.New(rand.NewSource(81))
	for n := range 200 {
		checkEncode(t, "mixed", mixed(g, sizes()[n%3], 1+g.Intn(api.MaxFrames)))
	}
}

// TestEncodeMadeUp: films that were made of blocks, with all their splits and
// vectors.
func TestEncodeMadeUp(t *testing.T) {
	g := rand.New(rand.NewSource(82))
	films := 0
	for n := range 3000 {
		f, _, e := flipbook.Decode(anyLine(g, sizes()[n%3], 1+g.Intn(4)))
		if e == api.OK {
			films++
			checkEncode(t, "made up", f)
		}
	}
	if films < 100 {
		t.Errorf("only %d films", films)
	}
}

// TestEncodeColours: one to five colours in one area, each of them most frequent
// once, among noise and alone.
func TestEncodeColours(t *testing.T) {
	g := rand.New(rand.NewSource(83))
	for _, size := range sizes() {
		for count := 1; count <= 5; count++ {
			for most := range count {
				for _, a := range []square{{0, 0, 4}, {size - 4, size - 4, 4}, {0, 0, size}} {
					frame := anyFrame(g, size)
					colours := append(corners()[7-most:], anyFrame(g, 4)...)[:count]
					for i := range a.side * a.side {
						c := colours[most]
						if i < 2*count {
							c = colours[i%count]
						}
						frame[(a.y+i/a.side)*size+a.x+i%a.side] = c
					}
					checkEncode(t, "colours", api.Film{Size: size, Frames: [][]api.Pixel{frame}})
				}
			}
		}
	}
}

// TestEncodeValues: each value of red, green and blue, as a plain frame and as
// soft ones.
func TestEncodeValues(t *testing.T) {
	g := rand.New(rand.NewSource(84))
	for v := range 256 {
		for i := range 3 {
			var p api.Pixel
			p[i] = byte(v)
			soft := anyFrame(g, 4)
			for j := range soft {
				soft[j][i] = byte(v)
			}
			checkEncode(t, "values", api.Film{Size: 4, Frames: [][]api.Pixel{fill(16, p), soft}})
		}
	}
}

// TestEncodeSteps: from each corner of the colours to each: the greatest numbers
// that a soft block can have.
func TestEncodeSteps(t *testing.T) {
	for _, a := range corners() {
		for _, b := range corners() {
			for _, c := range corners() {
				frame := append(corners(), corners()...)
				frame[0], frame[1], frame[4], frame[5] = a, b, c, a
				checkEncode(t, "steps", api.Film{Size: 4, Frames: [][]api.Pixel{frame}})
			}
		}
	}
}

// TestEncodeMost: as many frames as may be, as great and as uneven as may be.
func TestEncodeMost(t *testing.T) {
	g := rand.New(rand.NewSource(85))
	names := []string{"any", "corners", "five"}
	for n := range 12 {
		f := api.Film{Size: 16}
		for len(f.Frames) < api.MaxFrames {
			// Frames of another sort find the chances where they are of no use.
			f.Frames = append(f.Frames, makers()[names[(n+len(f.Frames)*(n/3))%3]](g, f))
		}
		checkEncode(t, "the most", f)
	}
}

// TestEncodeRefused: what is no film.
func TestEncodeRefused(t *testing.T) {
	check := func(name string, f api.Film) {
		t.Helper()
		if s, e := flipbook.Encode(f); s != "" || e != api.ErrFilm {
			t.Errorf("P8: %s: size %d, %d frames: %q, %d", name, f.Size, len(f.Frames), brief(s), e)
		}
	}
	check("nothing", api.Film{})
	for _, size := range []int{math.MinInt, -1 << 32, -16, -8, -4, -1, 0, 1, 2, 3, 5, 6, 7, 9, 12, 15, 17, 32, 64, 256, 256 + 4, 1 << 16, 1<<32 + 4, 1<<32 + 16, 1 << 62, math.MaxInt} {
		check("a size", api.Film{Size: size})
		check("a size, with a frame that is nil", api.Film{Size: size, Frames: make([][]api.Pixel, 1)})
		check("a size, with a frame of 16", api.Film{Size: size, Frames: [][]api.Pixel{fill(16, mark)}})
		if size > -100 && size < 100 {
			check("a size, with its frame", api.Film{Size: size, Frames: [][]api.Pixel{fill(size*size, mark)}})
		}
	}
	for _, size := range sizes() {
		whole := fill(size*size, mark)
		for _, n := range []int{api.MaxFrames + 1, api.MaxFrames + 2, 255, 256, 257, 100000} {
			check("too many frames", api.Film{Size: size, Frames: slices.Repeat([][]api.Pixel{whole}, n)})
			check("too many frames of nothing", api.Film{Size: size, Frames: make([][]api.Pixel, n)})
		}
		for n := 1; n <= api.MaxFrames; n++ {
			for at := range n {
				for _, bad := range [][]api.Pixel{nil, {}, whole[:1], whole[1:], fill(size*size+1, mark), whole[:size], fill(4*size*size, mark), fill(size*size/4, mark)} {
					f := api.Film{Size: size, Frames: slices.Repeat([][]api.Pixel{whole}, n)}
					f.Frames[at] = bad
					check("a frame of another length", f)
				}
			}
		}
		// The spare room of a list is none of it.
		check("a pixel less, with spare room", api.Film{Size: size, Frames: [][]api.Pixel{whole[:size*size-1]}})
	}
}

// TestEncodeAgain: behind any frames the last one once more takes 8 bytes at
// most, and so it goes on.
func TestEncodeAgain(t *testing.T) {
	g := rand.New(rand.NewSource(86))
	for n := range 150 {
		f := mixed(g, sizes()[n%3], 1+g.Intn(api.MaxFrames-1))
		if name := makerNames(); n < 3*len(name) {
			for i := range f.Frames {
				f.Frames[i] = makers()[name[n/3]](g, api.Film{Size: f.Size, Frames: f.Frames[:i]})
			}
		}
		length := len(checkEncode(t, "once", f))
		for len(f.Frames) < api.MaxFrames {
			last := f.Frames[len(f.Frames)-1]
			if g.Intn(2) == 0 {
				last = slices.Clone(last)
			}
			f.Frames = append(f.Frames, last)
			more := len(checkEncode(t, "once more", f))
			if more > length+8 {
				t.Errorf("P9: size %d, %d frames: the last once more takes %d bytes", f.Size, len(f.Frames), more-length)
			}
			length = more
		}
	}
}

// plainFilm: frames of one colour each.
func plainFilm(size int, colours []api.Pixel) api.Film {
	f := api.Film{Size: size}
	for _, c := range colours {
		f.Frames = append(f.Frames, fill(size*size, c))
	}
	return f
}

// plainColours: lists of colours for plain frames, among them such that lead the
// chances astray.
func plainColours(g *rand.Rand) [][]api.Pixel {
	var l [][]api.Pixel
	values := []byte{0, 1, 2, 3, 62, 63, 126, 127, 128, 191, 254, 255}
	for _, a := range values {
		for _, b := range values {
			for at := range api.MaxFrames {
				colours := slices.Repeat([]api.Pixel{{a, a, a}}, api.MaxFrames)
				colours[at] = api.Pixel{b, b, b}
				if at%2 == 1 {
					colours[0] = api.Pixel{a, b, a}
				}
				l = append(l, colours)
			}
		}
	}
	for range 300 {
		l = append(l, anyFrame(g, 4)[:api.MaxFrames], amongst(g, 4, corners())[:api.MaxFrames], amongst(g, 4, anyFrame(g, 4)[:3])[:api.MaxFrames])
	}
	return l
}

// TestEncodePlain: 8 bytes and 12 for each frame.
func TestEncodePlain(t *testing.T) {
	g := rand.New(rand.NewSource(87))
	for i, colours := range plainColours(g) {
		size := sizes()[i%3]
		for n := range api.MaxFrames + 1 {
			f := plainFilm(size, colours[:n])
			if s, e := flipbook.Encode(f); len(s) > 8+12*n || e != api.OK {
				t.Errorf("P9: size %d, plain frames %v: %d bytes, %d", size, colours[:n], len(s), e)
			}
		}
		checkEncode(t, "plain frames", plainFilm(size, colours))
	}
}

// TestEncodeAlone: what is answered ahead of a call, or at the same time, changes
// nothing.
func TestEncodeAlone(t *testing.T) {
	g := rand.New(rand.NewSource(88))
	var films []api.Film
	var want []string
	for n := range 24 {
		films = append(films, mixed(g, sizes()[n%3], 1+n%4))
		want = append(want, checkEncode(t, "alone", films[n]))
	}
	got := make([]string, 4*len(films))
	var all sync.WaitGroup
	for i := range got {
		all.Add(1)
		go func() {
			defer all.Done()
			got[i], _ = flipbook.Encode(films[i%len(films)])
		}()
	}
	all.Wait()
	for i, s := range got {
		if s != want[i%len(films)] {
			t.Errorf("P2: the film %d beside others: %q", i%len(films), brief(s))
		}
	}
}

// lengthOf: how many bytes a film of these frames takes.
func lengthOf(t *testing.T, size int, frames ...[]api.Pixel) int {
	t.Helper()
	return len(checkEncode(t, "little", api.Film{Size: size, Frames: frames}))
}

// window: the upper left area of a frame of the size 16.
func window(frame []api.Pixel, side int) []api.Pixel {
	var l []api.Pixel
	for y := range side {
		l = append(l, frame[16*y:16*y+side]...)
	}
	return l
}

// TestEncodeLittle: what the document's begin says costs little.
func TestEncodeLittle(t *testing.T) {
	g := rand.New(rand.NewSource(89))
	noise := anyFrame(g, 16)
	all := lengthOf(t, 16, noise)
	if all < 700 {
		t.Fatalf("noise of 768 bytes takes %d", all)
	}
	// One quarter is noise, the others are the same, elsewhere already.
	quarters := slices.Clone(noise)
	for i := range quarters {
		quarters[i] = noise[i/16%8*16+i%8]
	}
	one := lengthOf(t, 8, window(noise, 8))
	if n := lengthOf(t, 16, quarters); n > one+30 {
		t.Errorf("four times the same quarter: %d bytes, once %d", n, one)
	}
	// All areas of the side 4 are the first one.
	small := slices.Clone(noise)
	for i := range small {
		small[i] = noise[i/16%4*16+i%4]
	}
	one = lengthOf(t, 4, window(noise, 4))
	if n := lengthOf(t, 16, small); n > one+30 {
		t.Errorf("sixteen times the same area: %d bytes, once %d", n, one)
	}
	turned := slices.Clone(noise)
	for i := range turned {
		turned[i] = noise[(i+8*16)%256]
	}
	if n := lengthOf(t, 16, noise, turned); n > all+20 {
		t.Errorf("the frame before with its halves exchanged: %d bytes more", n-all)
	}
	if n := lengthOf(t, 16, noise, touchOf(g, api.Film{Size: 16, Frames: [][]api.Pixel{noise}})); n > all+90 {
		t.Errorf("one other pixel: %d bytes more", n-all)
	}
	if n := lengthOf(t, 16, amongst(g, 16, corners()[:2])); n > 80 {
		t.Errorf("two colours: %d bytes", n)
	}
	soft := make([]api.Pixel, 256)
	for i := range soft {
		soft[i] = api.Pixel{byte(i % 16 * 3), byte(i / 16 * 5), byte(i%16 + i/16)}
	}
	if n := lengthOf(t, 16, soft); n > 200 {
		t.Errorf("soft colours: %d bytes", n)
	}
}
