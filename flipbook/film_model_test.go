package flipbook_test

import (
	"flipbook/api"
	"flipbook/flipbook"
)

// modelFilm reads a film by the document's words. The bits come from anywhere:
// from bytes, or made up.
type modelFilm struct {
	next   func(k int) (int, api.Errno)
	size   int
	frames [][]api.Pixel
	read   map[[2]int]int // of this frame
	place  api.Place
}

// readFilm reads so many frames, up to the first fault.
func (m *modelFilm) readFilm(frames int) (e api.Errno) {
	defer func() {
		if fault := recover(); fault != nil {
			e = fault.(api.Errno)
		}
	}()
	for n := range frames {
		m.frames = append(m.frames, make([]api.Pixel, m.size*m.size))
		m.read = map[[2]int]int{}
		m.place.Frame = n
		m.area(0, 0, m.size)
	}
	m.place = api.Place{}
	return api.OK
}

func (m *modelFilm) bit(k int) int {
	v, e := m.next(k)
	m.must(e == api.OK, e)
	return v
}

func (m *modelFilm) must(ok bool, e api.Errno) {
	if !ok {
		panic(e)
	}
}

func (m *modelFilm) number(k int) int {
	n := 0
	for m.bit(k+n) == 1 {
		n++
		m.must(n < 10, api.ErrNumber)
	}
	d := 0
	for range n {
		d = d*2 + m.bit(k+12+n)
	}
	return 1<<n + d - 1
}

func (m *modelFilm) signed(k int) int {
	v := m.number(k)
	if v%2 == 0 {
		return v / 2
	}
	return -((v + 1) / 2)
}

func (m *modelFilm) area(x, y, side int) {
	m.place.X, m.place.Y = x, y
	if side == 16 && m.bit(0) == 1 || side == 8 && m.bit(1) == 1 {
		h := side / 2
		m.area(x, y, h)
		m.area(x+h, y, h)
		m.area(x, y+h, h)
		m.area(x+h, y+h, h)
		return
	}
	m.block(x, y, side)
	for j := range side {
		for i := range side {
			m.read[[2]int{x + i, y + j}] = 1
		}
	}
}

func (m *modelFilm) block(x, y, side int) {
	n := len(m.frames) - 1
	now := m.frames[n]
	switch first := m.bit(2); first*2 + m.bit(3+first) {
	case 0:
		for i := range side * side {
			m.soft(x+i%side, y+i/side)
		}
	case 1:
		count := m.number(200) + 1
		m.must(count <= 4, api.ErrNumber)
		colours := make([]api.Pixel, count)
		for i := range 3 * count {
			v := m.number(224)
			m.must(v <= 255, api.ErrColour)
			colours[i/3][i%3] = byte(v)
		}
		for i := range side * side {
			which := 0
			for which < count-1 && m.bit(250+which) == 1 {
				which++
			}
			now[(y+i/side)*m.size+x+i%side] = colours[which]
		}
	case 2:
		dx := m.signed(260)
		dy := m.signed(284)
		for i := range side * side {
			px, py := x+i%side+dx, y+i/side+dy
			m.must(m.read[[2]int{px, py}] == 1, api.ErrVector)
			now[(y+i/side)*m.size+x+i%side] = now[py*m.size+px]
		}
	case 3:
		m.must(n > 0, api.ErrFirst)
		dx := m.signed(310)
		dy := m.signed(334)
		for i := range side * side {
			px, py := x+i%side+dx, y+i/side+dy
			m.must(0 <= px && px < m.size && 0 <= py && py < m.size, api.ErrVector)
			now[(y+i/side)*m.size+x+i%side] = m.frames[n-1][py*m.size+px]
		}
	}
}

func (m *modelFilm) soft(x, y int) {
	c := modelExpected(m.frames[len(m.frames)-1], m.size, x, y)
	for i := range c {
		c[i] += m.signed(100 + 24*i)
	}
	p, e := flipbook.Back(c)
	m.must(e == api.OK, api.ErrColour)
	m.frames[len(m.frames)-1][y*m.size+x] = p
}

// modelExpected takes the middle one of a, b and a + b - d: that is what the
// document's three cases come to.
func modelExpected(frame []api.Pixel, size, x, y int) [3]int {
	var a, b, d [3]int
	if x > 0 {
		a = flipbook.Turn(frame[y*size+x-1])
	}
	if y > 0 {
		b = flipbook.Turn(frame[(y-1)*size+x])
	}
	if x > 0 && y > 0 {
		d = flipbook.Turn(frame[(y-1)*size+x-1])
	}
	var c [3]int
	for i := range c {
		c[i] = max(min(a[i], b[i]), min(max(a[i], b[i]), a[i]+b[i]-d[i]))
	}
	return c
}

// modelDecode: what Decode is to answer.
func modelDecode(s string) (api.Film, api.Place, api.Errno) {
	if len(s) > 120000 {
		return api.Film{}, api.Place{}, api.ErrLong
	}
	if len(s) < 4 || s[0] != 'F' || s[1] != 'B' || s[2] != 4 && s[2] != 8 && s[2] != 16 || s[3] > 8 {
		return api.Film{}, api.Place{}, api.ErrHead
	}
	l, e := beginModel(s[4:])
	if e != api.OK {
		return api.Film{}, api.Place{}, e
	}
	m := &modelFilm{next: l.bit, size: int(s[2])}
	if e := m.readFilm(int(s[3])); e != api.OK {
		return api.Film{}, m.place, e
	}
	if e := l.end(); e != api.OK {
		return api.Film{}, api.Place{}, e
	}
	return api.Film{Size: m.size, Frames: m.frames}, api.Place{}, api.OK
}
