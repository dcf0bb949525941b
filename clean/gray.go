package clean

import (
	"flatbed/api"
	"flatbed/page"
)

const (
	values          = 256
	white           = values - 1
	maxMiddleRadius = 5
)

// Stretch makes the values from low to high those from 0 to 255.
func Stretch(g api.Gray, low, high int) (api.Gray, api.Errno) {
	if e := page.CheckGray(g); e != api.OK {
		return api.Gray{}, e
	}
	if page.Outside(low, 0, white) || page.Outside(high, 0, white) {
		return api.Gray{}, api.ErrRange
	}
	if low >= high {
		return api.Gray{}, api.ErrOrder
	}
	p := page.Fill(g.W, g.H, func(x, y int) byte {
		v := min(max(int(g.P[y*g.W+x]), low), high)
		return byte(page.Rounded((v-low)*white, high-low))
	})
	return api.Gray{W: g.W, H: g.H, P: p}, api.OK
}

// Middle gives each pixel the middle value of the square around it, as far as that is in the page.
func Middle(g api.Gray, radius int) (api.Gray, api.Errno) {
	if e := page.CheckGray(g); e != api.OK {
		return api.Gray{}, e
	}
	if page.Outside(radius, 0, maxMiddleRadius) {
		return api.Gray{}, api.ErrRange
	}
	p := make([]byte, 0, len(g.P))
	for y := range g.H {
		p = appendMiddles(p, g, y, radius)
	}
	return api.Gray{W: g.W, H: g.H, P: p}, api.OK
}

// appendMiddles appends the middle values of a row. From one pixel to the next, only a column comes and one goes.
func appendMiddles(p []byte, g api.Gray, y, radius int) []byte {
	var counts [values]int
	n := 0
	top, bottom := max(y-radius, 0), min(y+radius+1, g.H)
	count := func(x, by int) {
		if page.Outside(x, 0, g.W-1) {
			return
		}
		for row := top; row < bottom; row++ {
			counts[g.P[row*g.W+x]] += by
			n += by
		}
	}
	for x := range radius {
		count(x, 1)
	}
	for x := range g.W {
		count(x+radius, 1)
		count(x-radius-1, -1)
		p = append(p, valueAt(&counts, (n-1)/2))
	}
	return p
}

// valueAt returns the value at a place of the values in order.
func valueAt(counts *[values]int, place int) byte {
	v := 0
	for place >= counts[v] {
		place -= counts[v]
		v++
	}
	return byte(v)
}

// Even takes away shadows: in each square of step by step pixels, the greatest value becomes white.
func Even(g api.Gray, step int) (api.Gray, api.Errno) {
	if e := page.CheckGray(g); e != api.OK {
		return api.Gray{}, e
	}
	if page.Outside(step, 1, api.MaxSide) {
		return api.Gray{}, api.ErrRange
	}
	across := (g.W + step - 1) / step
	square := func(x, y int) int { return y/step*across + x/step }
	lights := make([]int, across*((g.H+step-1)/step))
	for i, v := range g.P {
		at := square(i%g.W, i/g.W)
		lights[at] = max(lights[at], int(v), 1)
	}
	p := page.Fill(g.W, g.H, func(x, y int) byte {
		return byte(page.Rounded(int(g.P[y*g.W+x])*white, lights[square(x, y)]))
	})
	return api.Gray{W: g.W, H: g.H, P: p}, api.OK
}
