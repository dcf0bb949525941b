package part

import (
	"slices"

	"flatbed/api"
	"flatbed/page"
)

// leastStep is by how much a gap between words is wider, at least, than the next narrower one between letters.
const leastStep = 2

// Rows divides a box of a page into lines: stretches of rows with ink.
func Rows(b api.Bits, box api.Box, gap int) ([]api.Box, api.Errno) {
	return stretches(b, box, gap, page.Rows, func(s span) api.Box { return boxOf(span{0, box.W}, s) })
}

// Words divides a box of a page into words: stretches of columns with ink.
func Words(b api.Bits, box api.Box, gap int) ([]api.Box, api.Errno) {
	return stretches(b, box, gap, page.Columns, func(s span) api.Box { return boxOf(s, span{0, box.H}) })
}

// stretches divides a box as count and boxAt tell, by rows or by columns.
func stretches(b api.Bits, box api.Box, gap int, count func(api.Bits) ([]int, api.Errno),
	boxAt func(s span) api.Box) ([]api.Box, api.Errno) {
	c, e := page.Cut(b, box)
	if e != api.OK {
		return nil, e
	}
	if page.Outside(gap, 1, api.MaxSide) {
		return nil, api.ErrRange
	}
	inked, e := inkSpans(c, count)
	if e != api.OK {
		return nil, e
	}
	var l []api.Box
	for _, s := range join(inked, gap) {
		tight, e := boundsIn(c, boxAt(s))
		if e != api.OK {
			return nil, e
		}
		l = append(l, moved(tight, box.X, box.Y))
	}
	return l, api.OK
}

// inkSpans returns the stretches of rows or columns in which count counts ink.
func inkSpans(b api.Bits, count func(api.Bits) ([]int, api.Errno)) ([]span, api.Errno) {
	ink, e := count(b)
	if e != api.OK {
		return nil, e
	}
	return spans(0, len(ink), func(at int) bool { return ink[at] > 0 }), api.OK
}

// boundsIn returns the least box that has all ink of a box.
func boundsIn(b api.Bits, box api.Box) (api.Box, api.Errno) {
	c, e := page.Cut(b, box)
	if e != api.OK {
		return api.Box{}, e
	}
	tight, e := page.Bounds(c)
	if e != api.OK {
		return api.Box{}, e
	}
	return moved(tight, box.X, box.Y), api.OK
}

// Gap finds out from how many columns without ink on a gap of a line is one between words.
func Gap(b api.Bits, box api.Box) (int, api.Errno) {
	c, e := page.Cut(b, box)
	if e != api.OK {
		return 0, e
	}
	inked, e := inkSpans(c, page.Columns)
	if e != api.OK {
		return 0, e
	}
	var widths []int
	for _, s := range between(inked) {
		widths = append(widths, s.size())
	}
	slices.Sort(widths)
	return wordGap(widths), api.OK
}

// wordGap looks for the greatest step in widths that rise. Without a step that is great enough, it is more than all.
func wordGap(widths []int) int {
	if len(widths) == 0 {
		return 1
	}
	found, most := widths[len(widths)-1]+1, leastStep
	for i := 1; i < len(widths); i++ {
		if step := widths[i] - widths[i-1]; step >= most {
			found, most = widths[i], step
		}
	}
	return found
}

// Base returns the row of the page on which most pieces of a box end.
func Base(b api.Bits, box api.Box) (int, api.Errno) {
	c, e := page.Cut(b, box)
	if e != api.OK {
		return 0, e
	}
	pieces, e := Pieces(c)
	if e != api.OK {
		return 0, e
	}
	if len(pieces) == 0 {
		return 0, api.ErrEmpty
	}
	ends := map[int]int{}
	for _, p := range pieces {
		ends[rowsOf(p.Box).to-1]++
	}
	base := 0
	for row, count := range ends {
		if count > ends[base] || count == ends[base] && row > base {
			base = row
		}
	}
	return box.Y + base, api.OK
}
