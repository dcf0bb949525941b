package glyph

import (
	"flatbed/api"
	"flatbed/page"
)

// Noise turns part thousandths of the pixels over.
func Noise(b api.Bits, seed uint32, part int) (api.Bits, api.Errno) {
	if e := page.CheckBits(b); e != api.OK {
		return api.Bits{}, e
	}
	if page.Outside(part, 0, whole) {
		return api.Bits{}, api.ErrRange
	}
	p := page.Fill(b.W, b.H, func(x, y int) bool {
		k := y*b.W + x
		return b.P[k] != (chance(seed, k) < part)
	})
	return api.Bits{W: b.W, H: b.H, P: p}, api.OK
}

// chance is a number from 0 to 999 that hangs on a seed and on the number of a pixel alone.
func chance(seed uint32, k int) int {
	h := seed ^ uint32(k)*0x9e3779b9
	h = (h ^ h>>16) * 0x85ebca6b
	h = (h ^ h>>13) * 0xc2b2ae35
	return int((h ^ h>>16) % whole)
}
