package page

import "flatbed/api"

const (
	values    = 256
	white     = values - 1
	maxRadius = 200
)

// ToBits returns a page with ink where the value is less than level.
func ToBits(g api.Gray, level int) (api.Bits, api.Errno) {
	if e := CheckGray(g); e != api.OK {
		return api.Bits{}, e
	}
	if Outside(level, 0, values) {
		return api.Bits{}, api.ErrRange
	}
	p := Fill(g.W, g.H, func(x, y int) bool { return int(g.P[y*g.W+x]) < level })
	return api.Bits{W: g.W, H: g.H, P: p}, api.OK
}

// ToGray returns a page that is black where ink is, otherwise white.
func ToGray(b api.Bits) (api.Gray, api.Errno) {
	if e := CheckBits(b); e != api.OK {
		return api.Gray{}, e
	}
	p := Fill(b.W, b.H, func(x, y int) byte {
		if b.P[y*b.W+x] {
			return 0
		}
		return white
	})
	return api.Gray{W: b.W, H: b.H, P: p}, api.OK
}

// Histogram returns how many pixels have each of the 256 values.
func Histogram(g api.Gray) ([]int, api.Errno) {
	if e := CheckGray(g); e != api.OK {
		return nil, e
	}
	counts := make([]int, values)
	for _, v := range g.P {
		counts[v]++
	}
	return counts, api.OK
}

// Ink counts the ink in a box.
func Ink(b api.Bits, box api.Box) (int, api.Errno) {
	if e := CheckBits(b); e != api.OK {
		return 0, e
	}
	if e := CheckPlace(b.W, b.H, box); e != api.OK {
		return 0, e
	}
	n := 0
	for y := box.Y; y < box.Y+box.H; y++ {
		for x := box.X; x < box.X+box.W; x++ {
			if b.P[y*b.W+x] {
				n++
			}
		}
	}
	return n, api.OK
}

// Rows counts the ink of each row.
func Rows(b api.Bits) ([]int, api.Errno) {
	if e := CheckBits(b); e != api.OK {
		return nil, e
	}
	counts := make([]int, b.H)
	eachInk(b, func(x, y int) { counts[y]++ })
	return counts, api.OK
}

// Columns counts the ink of each column.
func Columns(b api.Bits) ([]int, api.Errno) {
	if e := CheckBits(b); e != api.OK {
		return nil, e
	}
	counts := make([]int, b.W)
	eachInk(b, func(x, y int) { counts[x]++ })
	return counts, api.OK
}

// Bounds returns the least box that has all ink.
func Bounds(b api.Bits) (api.Box, api.Errno) {
	if e := CheckBits(b); e != api.OK {
		return api.Box{}, e
	}
	left, top, right, bottom := b.W, b.H, -1, -1
	eachInk(b, func(x, y int) {
		left, right = min(left, x), max(right, x)
		top, bottom = min(top, y), max(bottom, y)
	})
	if right < 0 {
		return api.Box{}, api.ErrNone
	}
	return api.Box{X: left, Y: top, W: right - left + 1, H: bottom - top + 1}, api.OK
}

// eachInk calls visit for each pixel with ink.
func eachInk(b api.Bits, visit func(x, y int)) {
	for y := range b.H {
		for x := range b.W {
			if b.P[y*b.W+x] {
				visit(x, y)
			}
		}
	}
}

// Differ counts the places at which two pages of the same size differ.
func Differ(a, b api.Bits) (int, api.Errno) {
	if e := CheckBits(a); e != api.OK {
		return 0, e
	}
	if e := CheckBits(b); e != api.OK {
		return 0, e
	}
	if a.W != b.W || a.H != b.H {
		return 0, api.ErrConflict
	}
	n := 0
	for i, ink := range a.P {
		if ink != b.P[i] {
			n++
		}
	}
	return n, api.OK
}

// Means returns for each pixel the mean of the square around it, as far as that is in the page.
func Means(g api.Gray, radius int) ([]int, api.Errno) {
	if e := CheckGray(g); e != api.OK {
		return nil, e
	}
	if Outside(radius, 0, maxRadius) {
		return nil, api.ErrRange
	}
	around := Around(g.W, g.H, radius, func(x, y int) int { return int(g.P[y*g.W+x]) })
	return Fill(g.W, g.H, func(x, y int) int {
		sum, count := around(x, y)
		return Rounded(sum, count)
	}), api.OK
}

// Around returns a function for the square around a pixel up to radius, as far as it is in a page of w by h: the sum of
// the values that value tells of its pixels, and how many they are. It leaves the check of all numbers to its caller.
func Around(w, h, radius int, value func(x, y int) int) func(x, y int) (sum, count int) {
	total := Sums(w, h, value)
	return func(x, y int) (sum, count int) {
		left, right := max(x-radius, 0), min(x+radius+1, w)
		top, bottom := max(y-radius, 0), min(y+radius+1, h)
		box := api.Box{X: left, Y: top, W: right - left, H: bottom - top}
		return total(box), box.W * box.H
	}
}

// Sums returns a function for the sum of the values that value tells of the pixels in a box of a page of w by h.
// It leaves the check of all numbers to its caller.
func Sums(w, h int, value func(x, y int) int) func(box api.Box) int {
	sums := sumsBefore(w, h, value)
	before := func(x, y int) int { return sums[y*(w+1)+x] }
	return func(box api.Box) int {
		right, bottom := box.X+box.W, box.Y+box.H
		return before(right, bottom) - before(box.X, bottom) - before(right, box.Y) + before(box.X, box.Y)
	}
}

// sumsBefore returns, for each corner between pixels, row by row, the sum of all values above and left of it.
// With it the sum of a square takes four steps, however large the square is.
func sumsBefore(w, h int, value func(x, y int) int) []int {
	step := w + 1
	sums := make([]int, step*(h+1))
	for y := range h {
		row := 0
		for x := range w {
			row += value(x, y)
			sums[(y+1)*step+x+1] = sums[y*step+x+1] + row
		}
	}
	return sums
}
