package part

import (
	"flatbed/api"
	"flatbed/clean"
	"flatbed/page"
)

// Layout finds the blocks of a page, their lines, and their words.
func Layout(b api.Bits, w api.Ways) ([]api.Block, api.Errno) {
	if e := page.CheckBits(b); e != api.OK {
		return nil, e
	}
	if e := checkWays(w); e != api.OK {
		return nil, e
	}
	b, _, e := clean.Specks(b, w.Least-1)
	if e != api.OK {
		return nil, e
	}
	boxes, e := Split(b, api.Box{W: b.W, H: b.H}, w.GapX, w.GapY)
	if e != api.OK {
		return nil, e
	}
	blocks := make([]api.Block, 0, len(boxes))
	for _, box := range boxes {
		lines, e := linesOf(b, box, w)
		if e != api.OK {
			return nil, e
		}
		blocks = append(blocks, api.Block{Box: box, Lines: lines})
	}
	return blocks, api.OK
}

func checkWays(w api.Ways) api.Errno {
	if page.Outside(w.Least, 1, api.MaxPixels) || page.Outside(w.Line, 1, api.MaxSide) {
		return api.ErrRange
	}
	if page.Outside(w.Word, 0, api.MaxSide) {
		return api.ErrRange
	}
	return checkGaps(w.GapX, w.GapY)
}

func linesOf(b api.Bits, block api.Box, w api.Ways) ([]api.TextLine, api.Errno) {
	rows, e := Rows(b, block, w.Line)
	if e != api.OK {
		return nil, e
	}
	lines := make([]api.TextLine, 0, len(rows))
	for _, box := range rows {
		line, e := lineOf(b, box, w.Word)
		if e != api.OK {
			return nil, e
		}
		lines = append(lines, line)
	}
	return lines, api.OK
}

// lineOf finds the words of a line by a gap, or, if that is 0, by the one that the line itself has.
func lineOf(b api.Bits, box api.Box, gap int) (api.TextLine, api.Errno) {
	base, e := Base(b, box)
	if e != api.OK {
		return api.TextLine{}, e
	}
	if gap == 0 {
		gap, e = Gap(b, box)
		if e != api.OK {
			return api.TextLine{}, e
		}
	}
	words, e := Words(b, box, gap)
	if e != api.OK {
		return api.TextLine{}, e
	}
	return api.TextLine{Box: box, Base: base, Words: words}, api.OK
}

// Flat returns the boxes of all words, block by block, line by line.
func Flat(l []api.Block) []api.Box {
	var words []api.Box
	for _, block := range l {
		for _, line := range block.Lines {
			words = append(words, line.Words...)
		}
	}
	return words
}
