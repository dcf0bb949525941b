package glyph_test

import (
	"testing"

	"flatbed/api"
	"flatbed/glyph"
)

// chances are the Chance of the first 20 pixels, and of the pixels 1000 and 1048575, as P90 makes it, worked out elsewhere.
func chances() map[uint32][]int {
	return map[uint32][]int{
		0:          {0, 854, 19, 756, 319, 603, 605, 743, 797, 284, 975, 920, 291, 768, 256, 813, 466, 700, 864, 765, 512, 59},
		1:          {727, 995, 336, 773, 39, 159, 177, 404, 872, 858, 127, 120, 416, 177, 466, 580, 387, 827, 359, 209, 891, 466},
		5:          {485, 379, 26, 49, 546, 573, 411, 677, 821, 467, 357, 639, 170, 611, 153, 421, 943, 53, 491, 339, 757, 750},
		0xffffffff: {513, 154, 786, 474, 891, 186, 610, 510, 249, 873, 752, 563, 201, 22, 904, 610, 783, 93, 597, 773, 145, 423},
		0x80000000: {720, 818, 621, 554, 129, 288, 635, 159, 73, 311, 202, 309, 983, 935, 777, 54, 512, 524, 812, 140, 62, 318},
	}
}

// TestNoise turns each pixel over just from its Chance on.
func TestNoise(t *testing.T) {
	for seed, l := range chances() {
		for _, size := range [][2]int{{20, 1}, {1, 20}, {5, 4}} {
			for _, dark := range []int{0, 100, 256} {
				b := mixedBits(int(seed%7), size[0], size[1], dark)
				for part := range 1001 {
					want := pattern(b.W, b.H, func(x, y int) bool { return at(b, x, y) != (l[y*b.W+x] < part) })
					c, e := glyph.Noise(b, seed, part)
					wantBits(t, "Noise", c, e, want)
				}
			}
		}
	}
}

func TestNoiseOfLargePage(t *testing.T) {
	for seed, l := range chances() {
		for i, k := range []int{1000, 1<<20 - 1} {
			for part, want := range map[int]bool{0: false, l[20+i]: false, l[20+i] + 1: true, 1000: true} {
				b, e := glyph.Noise(plain(1024, 1024, false), seed, part)
				if e != api.OK || b.W != 1024 || b.H != 1024 || b.P[k] != want {
					t.Error(seed, k, part, e)
				}
			}
		}
	}
	for _, size := range goodSizes() {
		b := mixedBits(3, size[0], size[1], 50)
		c, _ := glyph.Noise(b, 77, 400)
		if c, e := glyph.Noise(c, 77, 400); e != api.OK || !sameBits(b, c) {
			t.Error("Noise twice is not the page", size, e)
		}
	}
}

func TestNoiseErrors(t *testing.T) {
	for _, part := range wrongNumbers(0, 1000) {
		b, e := glyph.Noise(draw("#."), 1, part)
		failBits(t, "Noise", b, e, api.ErrRange)
	}
}
