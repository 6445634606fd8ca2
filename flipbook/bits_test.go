package flipbook_test

import (
	"fmt"
	"math"
	"math/rand"
	"slices"
	"strings"
	"testing"

	"flipbook/api"
	"flipbook/flipbook"
)

// brief: the begin of a value's text.
func brief(v any) string {
	s := fmt.Sprint(v)
	return s[:min(len(s), 80)]
}

// row: the bits of a text of 0 and 1, with the contexts that follow each
// other by a step.
func row(text string, first, step int) []api.Bit {
	l := make([]api.Bit, len(text))
	for i, c := range text {
		l[i] = api.Bit{Context: (first + i*step) % api.Chances, Value: int(c - '0')}
	}
	return l
}

func contextsOf(l []api.Bit) []int {
	k := make([]int, len(l))
	for i, b := range l {
		k[i] = b.Context
	}
	return k
}

func valuesOf(l []api.Bit) []int {
	v := make([]int, len(l))
	for i, b := range l {
		v[i] = b.Value
	}
	return v
}

// checkBack: bits come back from their bytes, but not from a byte less or
// more. It tells the bytes.
func checkBack(t *testing.T, name string, l []api.Bit) string {
	t.Helper()
	b, e := flipbook.Squeeze(l)
	if e != api.OK || len(b) < 4 {
		t.Errorf("P5: %s: %d bytes, %d", name, len(b), e)
		return b
	}
	k := contextsOf(l)
	if got, e := flipbook.Stretch(b, k); e != api.OK || !slices.Equal(got, valuesOf(l)) {
		t.Errorf("P5: %s: back %s, %d", name, brief(got), e)
	}
	if got, e := flipbook.Stretch(b[:len(b)-1], k); got != nil || e != api.ErrShort {
		t.Errorf("P6: %s, a byte less: %s, %d", name, brief(got), e)
	}
	for _, more := range []string{"\x00", "\xff", "\x00\x00\x00\x00\x00"} {
		if got, e := flipbook.Stretch(b+more, k); got != nil || e != api.ErrTrail {
			t.Errorf("P6: %s, %d more: %s, %d", name, len(more), brief(got), e)
		}
	}
	return b
}

// modelLine reads a line by the document's words, in numbers that have room.
type modelLine struct {
	rest       string
	span, code int64
	used       map[int]int64
}

func beginModel(b string) (*modelLine, api.Errno) {
	if len(b) < 4 {
		return nil, api.ErrShort
	}
	m := &modelLine{b[4:], 4294967295, 0, map[int]int64{}}
	for i := range 4 {
		m.code = m.code*256 + int64(b[i])
	}
	if m.code >= m.span {
		return nil, api.ErrCode
	}
	return m, api.OK
}

func (m *modelLine) bit(k int) (int, api.Errno) {
	c, ok := m.used[k]
	if !ok {
		c = 2048
	}
	cut := m.span / 4096 * c
	value := 0
	if m.code < cut {
		m.span = cut
		m.used[k] = c + (4096-c)/32
	} else {
		value = 1
		m.code -= cut
		m.span -= cut
		m.used[k] = c - c/32
	}
	for m.span < 16777216 {
		if m.rest == "" {
			return 0, api.ErrShort
		}
		m.span, m.code, m.rest = m.span*256, m.code*256+int64(m.rest[0]), m.rest[1:]
	}
	return value, api.OK
}

func (m *modelLine) end() api.Errno {
	if m.rest != "" {
		return api.ErrTrail
	}
	return api.OK
}

// model reads a whole line.
func model(b string, contexts []int) ([]int, api.Errno) {
	m, e := beginModel(b)
	if e != api.OK {
		return nil, e
	}
	var values []int
	for _, k := range contexts {
		v, e := m.bit(k)
		if e != api.OK {
			return nil, e
		}
		values = append(values, v)
	}
	if e := m.end(); e != api.OK {
		return nil, e
	}
	return values, api.OK
}

// checkModel: Stretch answers what the model does.
func checkModel(t *testing.T, b string, contexts []int) {
	t.Helper()
	want, e := model(b, contexts)
	if got, ge := flipbook.Stretch(b, contexts); ge != e || !slices.Equal(got, want) {
		t.Errorf("P6: Stretch(%q, %s) = %s, %d, want %s, %d", b, brief(contexts), brief(got), ge, brief(want), e)
	}
}

// TestStretchCuts: codes just below, at and above a cut.
func TestStretchCuts(t *testing.T) {
	for _, c := range []struct {
		b        string
		contexts []int
		want     []int
	}{
		// 1048575 times 2048 is 7f ff f8 00
		{"\x7f\xff\xf7\xff", []int{0}, []int{0}},
		{"\x7f\xff\xf8\x00", []int{0}, []int{1}},
		{"\x7f\xff\xf8\x01", []int{0}, []int{1}},
		{"\x7f\xff\xf7\xff", []int{399}, []int{0}},
		{"\x7f\xff\xf8\x00", []int{399}, []int{1}},
		// Behind a 0 the chance is 2112: 524287 times 2112 is 41 ff f7 c0
		{"\x41\xff\xf7\xbf", []int{5, 5}, []int{0, 0}},
		{"\x41\xff\xf7\xc0", []int{5, 5}, []int{0, 1}},
		{"\x41\xff\xf7\xc1", []int{5, 5}, []int{0, 1}},
		// Another context still has 2048: 524287 times 2048 is 3f ff f8 00
		{"\x3f\xff\xf7\xff", []int{5, 6}, []int{0, 0}},
		{"\x3f\xff\xf8\x00", []int{5, 6}, []int{0, 1}},
		// Behind a 1 the range is 80 00 07 ff and the chance 1984: 524288
		// times 1984 is 3e 00 00 00, on top of the first cut
		{"\xbd\xff\xf7\xff", []int{5, 5}, []int{1, 0}},
		{"\xbd\xff\xf8\x00", []int{5, 5}, []int{1, 1}},
		{"\xbd\xff\xf8\x01", []int{5, 5}, []int{1, 1}},
		{"\xff\xff\xff\xfe", []int{5, 5}, []int{1, 1}},
	} {
		if got, e := flipbook.Stretch(c.b, c.contexts); e != api.OK || !slices.Equal(got, c.want) {
			t.Errorf("P6: Stretch(%q, %v) = %v, %d, want %v", c.b, c.contexts, got, e, c.want)
		}
	}
}

// TestStretchFaults: each fault, and which one goes first.
func TestStretchFaults(t *testing.T) {
	eight := []int{0, 1, 2, 3, 4, 5, 6, 7}
	many := make([]int, api.MaxBits+1)
	bad := slices.Clone(many)
	bad[0] = -1
	for i, c := range []struct {
		b        string
		contexts []int
		want     api.Errno
	}{
		{"\x00\x00\x00\x00", nil, api.OK},
		{"\xff\xff\xff\xfe", []int{}, api.OK},
		{"", nil, api.ErrShort},
		{"\x00\x00\x00", nil, api.ErrShort},
		{"\xff\xff\xff", nil, api.ErrShort},
		{"\xff\xff\xff\xff", nil, api.ErrCode},
		{"\xff\xff\xff\xff", eight, api.ErrCode},
		{"\xff\xff\xff\xff\x00", nil, api.ErrCode},
		{"\x00\x00\x00\x00\x00", nil, api.ErrTrail},
		{"\x00\x00\x00\x00\x00", eight[:7], api.ErrTrail},
		// The eighth even bit takes a byte, also as the last one.
		{"\x00\x00\x00\x00", eight[:7], api.OK},
		{"\x00\x00\x00\x00", eight, api.ErrShort},
		{"\x00\x00\x00\x00\x00", eight, api.OK},
		{"\x00\x00\x00\x00\x00\x00", eight, api.ErrTrail},
		// Of one context the tenth bit is the first that takes one.
		{"\x00\x00\x00\x00", make([]int, 9), api.OK},
		{"\x00\x00\x00\x00", make([]int, 10), api.ErrShort},
		{"", []int{-1}, api.ErrCode},
		{"\x00\x00\x00\x00", []int{api.Chances}, api.ErrCode},
		{"\x00\x00\x00\x00\x00\x00", []int{0, 399, math.MinInt}, api.ErrCode},
		{"\x00\x00\x00", append(slices.Clone(eight), math.MaxInt), api.ErrCode},
		{"\x00\x00\x00\x00", many, api.ErrLong},
		{"\x00\x00\x00\x00", many[1:], api.ErrShort},
		{"", bad, api.ErrLong},
		{strings.Repeat("\x00", 12), many[1:], api.OK},
		{strings.Repeat("\x00", 1<<20), many[1:], api.ErrTrail},
	} {
		l, e := flipbook.Stretch(c.b, c.contexts)
		if e != c.want || e != api.OK && l != nil || e == api.OK && len(l) != len(c.contexts) {
			t.Errorf("P6: the case %d: %s, %d, want %d", i, brief(l), e, c.want)
		}
	}
}

// TestStretchAsModel: any bytes, read with one context, with few, with all.
func TestStretchAsModel(t *testing.T) {
	g := rand.New(rand.NewSource(56))
	for n := range 2000 {
		b := make([]byte, g.Intn(40))
		g.Read(b)
		// Bytes of one sort make long rows of the same bit.
		if n%3 == 0 {
			for i := range b[:len(b)/2] {
				b[i] = byte(n % 2 * 255)
			}
		}
		if n%2 == 1 && len(b) > 3 {
			b[3] = 254
		}
		// So many bits as about fit, and a few more or less.
		contexts := make([]int, max(0, 8*len(b)-32+g.Intn(24)-12))
		room := []int{1, 3, 400}[g.Intn(3)]
		for i := range contexts {
			contexts[i] = 399 - g.Intn(room)
		}
		checkModel(t, string(b), contexts)
		for len(contexts) > 0 && len(contexts) < 500 {
			_, e := model(string(b), contexts)
			if e == api.OK {
				checkModel(t, string(b), contexts)
				break
			}
			if e == api.ErrTrail {
				contexts = append(contexts, 399-g.Intn(room))
			} else {
				contexts = contexts[:len(contexts)-1]
			}
		}
	}
}

// TestBitsShort: every row of a few bits, of one context and of one each.
func TestBitsShort(t *testing.T) {
	for n := range 11 {
		for v := range 1 << n {
			text := make([]byte, n)
			for i := range text {
				text[i] = '0' + byte(v>>i&1)
			}
			for _, step := range []int{0, 1} {
				checkBack(t, string(text), row(string(text), 399, step))
			}
		}
	}
}

// TestBitsLong: up to MaxBits of them. How many bytes there are follows from
// the reader alone; the lengths were worked out apart from the program.
func TestBitsLong(t *testing.T) {
	zeros, ones := strings.Repeat("0", api.MaxBits), strings.Repeat("1", api.MaxBits)
	for _, c := range []struct {
		name        string
		text        string
		first, step int
		want        int
	}{
		{"none", "", 0, 0, 4},
		{"zeros of one context", zeros, 0, 0, 12},
		{"ones of one context", ones, 399, 0, 12},
		{"zeros of all", zeros, 0, 1, 418},
		{"ones of all", ones, 0, 1, 418},
		{"by turns", strings.Repeat("01", api.MaxBits/2), 5, 0, 515},
		{"one less", zeros[1:], 0, 0, 12},
	} {
		if b := checkBack(t, c.name, row(c.text, c.first, c.step)); len(b) != c.want {
			t.Errorf("P5, P6: %s: %d bytes, want %d", c.name, len(b), c.want)
		}
	}
	checkBack(t, "zeros, then ones", row(zeros[:2000]+ones[:2000], 7, 0))
	checkBack(t, "ones, then zeros", row(ones[:2000]+zeros[:2000], 7, 0))
	checkBack(t, "ones and a zero", row(ones[:3000]+"0"+ones[:900], 7, 0))
}

// TestBitsAny: rows of any bits, the likely one rare or not.
func TestBitsAny(t *testing.T) {
	g := rand.New(rand.NewSource(65))
	for n := range 3000 {
		l := make([]api.Bit, g.Intn(300))
		room, rare := 1+g.Intn(400), 1+g.Intn(40)
		for i := range l {
			l[i].Context = g.Intn(room)
			if g.Intn(rare) == 0 {
				l[i].Value = 1
			}
			l[i].Value ^= n & 1
		}
		b := checkBack(t, "any", l)
		checkModel(t, b, contextsOf(l))
	}
}

// TestRangeEdge: a range of just 16777216 takes no byte, one of 1 less does.
func TestRangeEdge(t *testing.T) {
	for _, c := range []struct {
		values, contexts string
		want             int
	}{
		{"011101110101100", "011111220112121", 5},
		{"0111011101011000", "0111112201121213", 5},
		{"01110111010110000", "01111122011212134", 6},
		{"001111110110110", "111011200110212", 5},
		{"0011111101101100", "1110112001102122", 6},
	} {
		l := row(c.values, 0, 0)
		for i, k := range c.contexts {
			l[i].Context = int(k - '0')
		}
		b := checkBack(t, c.values, l)
		if len(b) != c.want {
			t.Errorf("P6: %s: %d bytes, want %d", c.values, len(b), c.want)
		}
		checkModel(t, b, contextsOf(l))
	}
}

func TestSqueezeFaults(t *testing.T) {
	many := make([]api.Bit, api.MaxBits+1)
	bad := slices.Clone(many)
	bad[0].Value = 2
	last := slices.Clone(many[1:])
	last[api.MaxBits-1].Context = api.Chances
	for i, c := range []struct {
		l    []api.Bit
		want api.Errno
	}{
		{nil, api.OK},
		{[]api.Bit{{Context: 0, Value: 1}, {Context: 399, Value: 0}}, api.OK},
		{[]api.Bit{{Context: -1}}, api.ErrCode},
		{[]api.Bit{{Context: api.Chances}}, api.ErrCode},
		{[]api.Bit{{Context: math.MinInt}}, api.ErrCode},
		{[]api.Bit{{Context: math.MaxInt}}, api.ErrCode},
		{[]api.Bit{{Context: 1 << 32}}, api.ErrCode},
		{[]api.Bit{{Value: -1}}, api.ErrCode},
		{[]api.Bit{{Value: 2}}, api.ErrCode},
		{[]api.Bit{{Value: math.MinInt}}, api.ErrCode},
		{[]api.Bit{{Value: 1<<32 + 1}}, api.ErrCode},
		{[]api.Bit{{}, {Value: 1}, {Value: math.MaxInt}}, api.ErrCode},
		{last, api.ErrCode},
		{many[1:], api.OK},
		{many, api.ErrLong},
		{bad, api.ErrLong},
		{make([]api.Bit, 1<<20), api.ErrLong},
	} {
		b, e := flipbook.Squeeze(c.l)
		if e != c.want || (b == "") != (e != api.OK) {
			t.Errorf("P5: the case %d: %d bytes, %d, want %d", i, len(b), e, c.want)
		}
	}
}

// TestBitsKeepNothing: what is handed in stays as it is, its spare room too,
// and may be written into behind the call; answers share no memory.
func TestBitsKeepNothing(t *testing.T) {
	all := row("0110100110010110", 3, 1)
	was := slices.Clone(all)
	l := all[:9]
	b, _ := flipbook.Squeeze(l)
	kept := strings.Clone(b)
	if !slices.Equal(all, was) {
		t.Errorf("P2: Squeeze wrote into %v", all)
	}
	allContexts := contextsOf(was)
	contexts := allContexts[:9]
	first, _ := flipbook.Stretch(b, contexts)
	if !slices.Equal(allContexts, contextsOf(was)) {
		t.Errorf("P2: Stretch wrote into %v", allContexts)
	}
	clear(all)
	clear(allContexts)
	if b != kept || !slices.Equal(first, valuesOf(was[:9])) {
		t.Errorf("P2: the answers became %q, %v", b, first)
	}
	full := first[:cap(first)]
	for i := range full {
		full[i] = -9
	}
	second, e := flipbook.Stretch(b, contextsOf(was[:9]))
	if e != api.OK || !slices.Equal(second, valuesOf(was[:9])) {
		t.Errorf("P2: a second answer: %v, %d", second, e)
	}
	if again, e := flipbook.Squeeze(was[:9]); again != b || e != api.OK {
		t.Errorf("P2: Squeeze again: %q, %d, want %q", again, e, b)
	}
}
