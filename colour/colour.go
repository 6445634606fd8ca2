// Package colour turns pixels into one brightness and two hues, and back.
package colour

import "flipbook/api"

// top is the greatest value of red, green and blue.
const top = 255

// Turn tells Y, U and V of a pixel.
func Turn(p api.Pixel) [3]int {
	r, g, b := int(p[0]), int(p[1]), int(p[2])
	u := r - b
	t := b + half(u)
	v := g - t
	y := t + half(v)
	return [3]int{y, u, v}
}

// Back tells the pixel whose Y, U and V these are, and whether there is one.
func Back(c [3]int) (api.Pixel, bool) {
	y, u, v := c[0], c[1], c[2]
	// No pixel's numbers lie further out, and within this the sums below
	// cannot wrap round, whatever came in.
	if !isNear(y) || !isNear(u) || !isNear(v) {
		return api.Pixel{}, false
	}
	t := y - half(v)
	g := v + t
	b := t - half(u)
	r := u + b
	if !isByte(r) || !isByte(g) || !isByte(b) {
		return api.Pixel{}, false
	}
	return api.Pixel{byte(r), byte(g), byte(b)}, true
}

// half rounds down below zero too, which a division by 2 would not.
func half(n int) int { return n >> 1 }

func isNear(n int) bool { return -top <= n && n <= top }

func isByte(n int) bool { return 0 <= n && n <= top }
