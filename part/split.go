package part

import (
	"slices"

	"flatbed/api"
	"flatbed/page"
)

// An area is a box of a page: the columns and the rows of it that have ink.
type area struct{ columns, rows []span }

// box is the least one that has all ink of the area.
func (a area) box() api.Box {
	lastColumns, lastRows := a.columns[len(a.columns)-1], a.rows[len(a.rows)-1]
	return boxOf(span{a.columns[0].from, lastColumns.to}, span{a.rows[0].from, lastRows.to})
}

// Split cuts a box of a page into blocks, at stretches without ink.
func Split(b api.Bits, box api.Box, gapx, gapy int) ([]api.Box, api.Errno) {
	c, e := page.Cut(b, box)
	if e != api.OK {
		return nil, e
	}
	if e := checkGaps(gapx, gapy); e != api.OK {
		return nil, e
	}
	look := looker(c)
	whole := look(api.Box{W: c.W, H: c.H})
	if len(whole.columns) == 0 {
		return nil, api.OK
	}
	parts := partsOf(whole, func(a area) (first, second area, ok bool) {
		at, upright := cutBetween(slices.Values(a.columns), slices.Values(a.rows), gapx, gapy)
		if at.size() == 0 {
			return area{}, area{}, false
		}
		before, behind := halves(a.box(), at, upright)
		return look(before), look(behind), true
	})
	if len(parts) > api.MaxBoxes {
		return nil, api.ErrLarge
	}
	blocks := make([]api.Box, 0, len(parts))
	for _, a := range parts {
		blocks = append(blocks, moved(a.box(), box.X, box.Y))
	}
	return blocks, api.OK
}

// looker returns a function for the areas of a page. By sums that are made once, it takes no longer for a column that is
// high than for one that is low.
func looker(b api.Bits) func(box api.Box) area {
	count := page.Sums(b.W, b.H, func(x, y int) int {
		if b.P[y*b.W+x] {
			return 1
		}
		return 0
	})
	return func(box api.Box) area {
		columns, rows := columnsOf(box), rowsOf(box)
		return area{
			columns: spans(columns.from, columns.to, func(x int) bool { return count(boxOf(span{x, x + 1}, rows)) > 0 }),
			rows:    spans(rows.from, rows.to, func(y int) bool { return count(boxOf(columns, span{y, y + 1})) > 0 }),
		}
	}
}

// halves are what is left of a box, before and behind a stretch of its columns, or of its rows.
func halves(box api.Box, at span, upright bool) (before, behind api.Box) {
	columns, rows := columnsOf(box), rowsOf(box)
	if upright {
		return boxOf(span{columns.from, at.from}, rows), boxOf(span{at.to, columns.to}, rows)
	}
	return boxOf(columns, span{rows.from, at.from}), boxOf(columns, span{at.to, rows.to})
}

func moved(b api.Box, dx, dy int) api.Box { return api.Box{X: b.X + dx, Y: b.Y + dy, W: b.W, H: b.H} }
