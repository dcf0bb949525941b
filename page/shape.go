package page

import (
	"slices"

	"flatbed/api"
)

const maxTimes = 16

// Cut returns the part of a page in a box.
func Cut(b api.Bits, box api.Box) (api.Bits, api.Errno) {
	if e := CheckBits(b); e != api.OK {
		return api.Bits{}, e
	}
	if e := CheckPlace(b.W, b.H, box); e != api.OK {
		return api.Bits{}, e
	}
	return api.Bits{W: box.W, H: box.H, P: cut(b.P, b.W, box)}, api.OK
}

// CutGray returns the part of a page in a box.
func CutGray(g api.Gray, box api.Box) (api.Gray, api.Errno) {
	if e := CheckGray(g); e != api.OK {
		return api.Gray{}, e
	}
	if e := CheckPlace(g.W, g.H, box); e != api.OK {
		return api.Gray{}, e
	}
	return api.Gray{W: box.W, H: box.H, P: cut(g.P, g.W, box)}, api.OK
}

func cut[T any](p []T, w int, box api.Box) []T {
	return Fill(box.W, box.H, func(x, y int) T { return p[(box.Y+y)*w+box.X+x] })
}

// Turn turns a page to the right by quarters.
func Turn(b api.Bits, quarters int) (api.Bits, api.Errno) {
	if e := CheckBits(b); e != api.OK {
		return api.Bits{}, e
	}
	w, h, p := turn(b.P, b.W, b.H, quarters)
	return api.Bits{W: w, H: h, P: p}, api.OK
}

// TurnGray turns a page to the right by quarters.
func TurnGray(g api.Gray, quarters int) (api.Gray, api.Errno) {
	if e := CheckGray(g); e != api.OK {
		return api.Gray{}, e
	}
	w, h, p := turn(g.P, g.W, g.H, quarters)
	return api.Gray{W: w, H: h, P: p}, api.OK
}

// turn adds 4 to what Go's % leaves, as that is negative for a turn to the left.
func turn[T any](p []T, w, h, quarters int) (int, int, []T) {
	switch (quarters%4 + 4) % 4 {
	case 1:
		return h, w, Fill(h, w, func(x, y int) T { return p[(h-1-x)*w+y] })
	case 2:
		return w, h, Fill(w, h, func(x, y int) T { return p[(h-1-y)*w+w-1-x] })
	case 3:
		return h, w, Fill(h, w, func(x, y int) T { return p[x*w+w-1-y] })
	}
	return w, h, slices.Clone(p)
}

// Mirror exchanges left and right.
func Mirror(b api.Bits) (api.Bits, api.Errno) {
	if e := CheckBits(b); e != api.OK {
		return api.Bits{}, e
	}
	p := Fill(b.W, b.H, func(x, y int) bool { return b.P[y*b.W+b.W-1-x] })
	return api.Bits{W: b.W, H: b.H, P: p}, api.OK
}

// Invert exchanges ink and no ink.
func Invert(b api.Bits) (api.Bits, api.Errno) {
	if e := CheckBits(b); e != api.OK {
		return api.Bits{}, e
	}
	p := Fill(b.W, b.H, func(x, y int) bool { return !b.P[y*b.W+x] })
	return api.Bits{W: b.W, H: b.H, P: p}, api.OK
}

// Halve returns a page half as wide and half as high, both rounded up.
func Halve(g api.Gray) (api.Gray, api.Errno) {
	if e := CheckGray(g); e != api.OK {
		return api.Gray{}, e
	}
	w, h := (g.W+1)/2, (g.H+1)/2
	p := Fill(w, h, func(x, y int) byte { return meanOfFour(g, 2*x, 2*y) })
	return api.Gray{W: w, H: h, P: p}, api.OK
}

// meanOfFour takes only the pixels that there are: at the right and below, an odd page has fewer than four.
func meanOfFour(g api.Gray, left, top int) byte {
	sum, count := 0, 0
	for y := top; y < min(top+2, g.H); y++ {
		for x := left; x < min(left+2, g.W); x++ {
			sum += int(g.P[y*g.W+x])
			count++
		}
	}
	return byte(Rounded(sum, count))
}

// Grow makes of each pixel times by times ones.
func Grow(b api.Bits, times int) (api.Bits, api.Errno) {
	if e := CheckBits(b); e != api.OK {
		return api.Bits{}, e
	}
	if Outside(times, 1, maxTimes) {
		return api.Bits{}, api.ErrRange
	}
	w, h := b.W*times, b.H*times
	if e := CheckSize(w, h); e != api.OK {
		return api.Bits{}, e
	}
	p := Fill(w, h, func(x, y int) bool { return b.P[y/times*b.W+x/times] })
	return api.Bits{W: w, H: h, P: p}, api.OK
}

// Paste returns b with the ink of c, whose upper left corner comes to (x, y).
func Paste(b, c api.Bits, x, y int) (api.Bits, api.Errno) {
	if e := CheckBits(b); e != api.OK {
		return api.Bits{}, e
	}
	if e := CheckBits(c); e != api.OK {
		return api.Bits{}, e
	}
	p := slices.Clone(b.P)
	fromX, toX := overlap(b.W, c.W, x)
	fromY, toY := overlap(b.H, c.H, y)
	for j := fromY; j < toY; j++ {
		for i := fromX; i < toX; i++ {
			if c.P[j*c.W+i] {
				p[(y+j)*b.W+x+i] = true
			}
		}
	}
	return api.Bits{W: b.W, H: b.H, P: p}, api.OK
}

// overlap returns which part of a side that begins at at lies between 0 and whole.
// Far places are sorted out first, as -at and whole - at can be beyond what an int holds.
func overlap(whole, side, at int) (from, to int) {
	if at >= whole || at <= -side {
		return 0, 0
	}
	return max(-at, 0), min(side, whole-at)
}

// Put writes a page, also what has no ink, into a page of the caller's own, in which it lies; it leaves the check of all
// arguments to its caller.
func Put(b, c api.Bits, x, y int) {
	for row := range c.H {
		copy(b.P[(y+row)*b.W+x:], c.P[row*c.W:(row+1)*c.W])
	}
}
