package part

import (
	"cmp"
	"slices"

	"flatbed/api"
	"flatbed/clean"
	"flatbed/page"
)

const leastRule = 2

// A found is a ruled line with its first pixel.
type found struct {
	rail  api.Rail
	first api.Point
}

// Rules finds ruled lines: those of long runs of ink in rows, and those in columns.
func Rules(b api.Bits, least int) ([]api.Rail, api.Errno) {
	if e := page.CheckBits(b); e != api.OK {
		return nil, e
	}
	if page.Outside(least, leastRule, api.MaxSide) {
		return nil, api.ErrRange
	}
	var l []found
	for _, down := range []bool{false, true} {
		// Runs of the same row never share a side, as there is a pixel without ink between them; likewise in columns.
		for _, p := range groupsOfInk(longRuns(b, down, least), clean.BySides) {
			l = append(l, found{api.Rail{Box: p.Box, Down: down}, p.First})
		}
	}
	// Of two lines with the same first pixel, that of rows stays ahead.
	slices.SortStableFunc(l, func(a, b found) int {
		return cmp.Or(cmp.Compare(a.first.Y, b.first.Y), cmp.Compare(a.first.X, b.first.X))
	})
	rails := make([]api.Rail, 0, len(l))
	for _, f := range l {
		rails = append(rails, f.rail)
	}
	return rails, api.OK
}

// longRuns returns the page with only those runs of ink in its rows (or, down, in its columns) that have least pixels.
func longRuns(b api.Bits, down bool, least int) api.Bits {
	lines, long, place := b.H, b.W, func(line, i int) int { return line*b.W + i }
	if down {
		lines, long, place = b.W, b.H, func(line, i int) int { return i*b.W + line }
	}
	p := make([]bool, len(b.P))
	for line := range lines {
		for _, run := range spans(0, long, func(i int) bool { return b.P[place(line, i)] }) {
			if run.size() < least {
				continue
			}
			for i := run.from; i < run.to; i++ {
				p[place(line, i)] = true
			}
		}
	}
	return api.Bits{W: b.W, H: b.H, P: p}
}

// Without takes away the ink of ruled lines: what belongs, within their boxes, to runs at least half as long as the box.
func Without(b api.Bits, l []api.Rail) (api.Bits, api.Errno) {
	if e := page.CheckBits(b); e != api.OK {
		return api.Bits{}, e
	}
	left := slices.Clone(b.P)
	for _, r := range l {
		c, e := page.Cut(b, r.Box)
		if e != api.OK {
			return api.Bits{}, e
		}
		long := c.W
		if r.Down {
			long = c.H
		}
		for i, gone := range longRuns(c, r.Down, (long+1)/2).P {
			if gone {
				left[(r.Box.Y+i/c.W)*b.W+r.Box.X+i%c.W] = false
			}
		}
	}
	return api.Bits{W: b.W, H: b.H, P: left}, api.OK
}
