// Package flipbook packs small moving pictures: see DOC.md.
package flipbook

import (
	"errors"

	"flipbook/api"
	"flipbook/colour"
	"flipbook/film"
	"flipbook/line"
)

// Turn tells a colour's brightness and its two hues (P3).
func Turn(p api.Pixel) [3]int { return colour.Turn(p) }

// Back tells the colour of these (P4).
func Back(c [3]int) (api.Pixel, api.Errno) {
	p, ok := colour.Back(c)
	if !ok {
		return api.Pixel{}, api.ErrColour
	}
	return p, api.OK
}

// Squeeze packs bits (P5).
func Squeeze(bits []api.Bit) (string, api.Errno) {
	if len(bits) > api.MaxBits {
		return "", api.ErrLong
	}
	for _, b := range bits {
		if !line.IsContext(b.Context) || b.Value != 0 && b.Value != 1 {
			return "", api.ErrCode
		}
	}
	w := line.NewWriter()
	for _, b := range bits {
		w.Put(b.Context, b.Value)
	}
	return w.End(), api.OK
}

// Stretch unpacks the bits of these contexts (P6).
func Stretch(b string, contexts []int) ([]int, api.Errno) {
	if len(contexts) > api.MaxBits {
		return nil, api.ErrLong
	}
	for _, k := range contexts {
		if !line.IsContext(k) {
			return nil, api.ErrCode
		}
	}
	values, err := readBits(b, contexts)
	if err != nil {
		return nil, errno(err)
	}
	return values, api.OK
}

// readBits reads a whole line whose contexts are known ahead.
func readBits(b string, contexts []int) ([]int, error) {
	r, err := line.NewReader(b)
	if err != nil {
		return nil, err
	}
	values := make([]int, len(contexts))
	for i, k := range contexts {
		if values[i], err = r.Bit(k); err != nil {
			return nil, err
		}
	}
	return values, r.End()
}

// Decode unpacks a film; where a fault lies (P7).
func Decode(b string) (api.Film, api.Place, api.Errno) {
	if len(b) > api.MaxBytes {
		return api.Film{}, api.Place{}, api.ErrLong
	}
	f, err := film.Read(b)
	if err != nil {
		return api.Film{}, place(err), errno(err)
	}
	return f, api.Place{}, api.OK
}

// errno tells the number of what is wrong with bytes.
func errno(err error) api.Errno {
	switch {
	case errors.Is(err, film.ErrHead):
		return api.ErrHead
	case errors.Is(err, line.ErrShort):
		return api.ErrShort
	case errors.Is(err, film.ErrFirst):
		return api.ErrFirst
	case errors.Is(err, line.ErrNumber):
		return api.ErrNumber
	case errors.Is(err, film.ErrVector):
		return api.ErrVector
	case errors.Is(err, film.ErrColour):
		return api.ErrColour
	case errors.Is(err, line.ErrTrail):
		return api.ErrTrail
	}
	return api.ErrCode
}

// place tells where bytes are wrong: nowhere, if it is not within an area or a
// block.
func place(err error) api.Place {
	var f film.Fault
	if errors.As(err, &f) {
		return f.Place
	}
	return api.Place{}
}

// Encode packs a film (P8).
func Encode(f api.Film) (string, api.Errno) {
	if !film.IsFilm(f) {
		return "", api.ErrFilm
	}
	return film.Write(f), api.OK
}
