package clean

import (
	"maps"
	"slices"

	"flatbed/api"
	"flatbed/page"
)

const (
	maxInkRadius = 50
	mostOfNine   = 5
)

// Spread makes ink of each pixel with ink in the square around it.
func Spread(b api.Bits, radius int) (api.Bits, api.Errno) {
	return byInkAround(b, radius, 1)
}

// Shrink leaves the ink of pixels whose whole square around them is ink. A square that is cut off by the border of the
// page has too few pixels for that.
func Shrink(b api.Bits, radius int) (api.Bits, api.Errno) {
	side := 2*radius + 1
	return byInkAround(b, radius, side*side)
}

// Majority makes ink of each pixel if most of the nine pixels of it and its neighbours are ink.
func Majority(b api.Bits) (api.Bits, api.Errno) {
	return byInkAround(b, 1, mostOfNine)
}

// byInkAround makes ink of each pixel with at least least pixels of ink in the square around it.
func byInkAround(b api.Bits, radius, least int) (api.Bits, api.Errno) {
	if e := page.CheckBits(b); e != api.OK {
		return api.Bits{}, e
	}
	if page.Outside(radius, 0, maxInkRadius) {
		return api.Bits{}, api.ErrRange
	}
	ink := page.Around(b.W, b.H, radius, func(x, y int) int {
		if b.P[y*b.W+x] {
			return 1
		}
		return 0
	})
	p := page.Fill(b.W, b.H, func(x, y int) bool {
		n, _ := ink(x, y)
		return n >= least
	})
	return api.Bits{W: b.W, H: b.H, P: p}, api.OK
}

// Strokes tells how wide strokes are, mostly.
func Strokes(b api.Bits) (int, api.Errno) {
	if e := page.CheckBits(b); e != api.OK {
		return 0, e
	}
	counts := map[int]int{}
	for y := range b.H {
		countRuns(counts, b.W, func(x int) bool { return b.P[y*b.W+x] })
	}
	for x := range b.W {
		countRuns(counts, b.H, func(y int) bool { return b.P[y*b.W+x] })
	}
	return mostOften(counts), api.OK
}

// countRuns counts, by their lengths, the runs of ink in a row or column of n pixels.
func countRuns(counts map[int]int, n int, ink func(i int) bool) {
	length := 0
	for i := range n {
		if ink(i) {
			length++
			continue
		}
		if length > 0 {
			counts[length]++
		}
		length = 0
	}
	if length > 0 {
		counts[length]++
	}
}

// mostOften returns the length that occurs most often, of several the least; 0, if there is none.
func mostOften(counts map[int]int) int {
	best := 0
	for _, length := range slices.Sorted(maps.Keys(counts)) {
		if counts[length] > counts[best] {
			best = length
		}
	}
	return best
}
