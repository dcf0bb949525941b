package skew

import (
	"flatbed/api"
	"flatbed/page"
)

const (
	maxLevel  = 256
	wholePart = 1000
)

// Upright tells by how many quarters to the right, 0 or 1, a page has to be turned so that its lines lie.
func Upright(b api.Bits) (int, api.Errno) {
	if _, e := page.Bounds(b); e != api.OK {
		return 0, e
	}
	rows, columns, e := inkCounts(b)
	if e != api.OK {
		return 0, e
	}
	if squares(columns) > squares(rows) {
		return 1, api.OK
	}
	return 0, api.OK
}

// inkCounts returns the ink of each row and of each column.
func inkCounts(b api.Bits) (rows, columns []int, e api.Errno) {
	rows, e = page.Rows(b)
	if e != api.OK {
		return nil, nil, e
	}
	columns, e = page.Columns(b)
	if e != api.OK {
		return nil, nil, e
	}
	return rows, columns, api.OK
}

// Sheet finds the sheet on a dark ground. Rows and columns at the rim belong to the ground if at least part thousandths
// of their pixels are darker than level.
func Sheet(g api.Gray, level, part int) (api.Box, api.Errno) {
	if e := page.CheckGray(g); e != api.OK {
		return api.Box{}, e
	}
	if page.Outside(level, 0, maxLevel) || page.Outside(part, 1, wholePart) {
		return api.Box{}, api.ErrRange
	}
	dark, e := page.ToBits(g, level)
	if e != api.OK {
		return api.Box{}, e
	}
	rows, columns, e := inkCounts(dark)
	if e != api.OK {
		return api.Box{}, e
	}
	top, bottom := within(rows, func(n int) bool { return n*wholePart >= part*g.W })
	left, right := within(columns, func(n int) bool { return n*wholePart >= part*g.H })
	if top == bottom || left == right {
		return api.Box{}, api.ErrNone
	}
	return api.Box{X: left, Y: top, W: right - left, H: bottom - top}, api.OK
}

// within tells what is left of a list when ground is taken away at both ends: from from to before to.
func within(list []int, ground func(n int) bool) (from, to int) {
	from, to = 0, len(list)
	for from < to && ground(list[from]) {
		from++
	}
	for from < to && ground(list[to-1]) {
		to--
	}
	return from, to
}

// Margins returns how many rows and columns without ink there are around the ink.
func Margins(b api.Bits) (api.Margins, api.Errno) {
	box, e := page.Bounds(b)
	if e != api.OK {
		return api.Margins{}, e
	}
	return api.Margins{Left: box.X, Top: box.Y, Right: b.W - box.X - box.W, Bottom: b.H - box.Y - box.H}, api.OK
}

// Centre puts the part of a page that has ink in the middle of an empty page of w by h.
func Centre(b api.Bits, w, h int) (api.Bits, api.Errno) {
	if e := page.CheckBits(b); e != api.OK {
		return api.Bits{}, e
	}
	empty, e := page.Blank(w, h)
	if e != api.OK {
		return api.Bits{}, e
	}
	box, e := page.Bounds(b)
	if e != api.OK {
		return api.Bits{}, e
	}
	c, e := page.Cut(b, box)
	if e != api.OK {
		return api.Bits{}, e
	}
	return page.Paste(empty, c, halfDown(w-box.W), halfDown(h-box.H))
}

// halfDown rounds down also what is negative; Go's / does not.
func halfDown(n int) int { return n >> 1 }
