package part_test

import (
	"testing"

	"flatbed/api"
	"flatbed/part"
)

// widestEmpty returns the first of the widest stretches that has leaves out, and that begin and end within from and to:
// where it begins and how long it is; 0, if none has least.
func widestEmpty(from, to, least int, has func(at int) bool) (start, long int) {
	for i := from + 1; i < to; i++ {
		n := 0
		for i+n < to && !has(i+n) {
			n++
		}
		if has(i-1) && i+n < to && n >= least && n > long {
			start, long = i, n
		}
	}
	return start, long
}

func hasInk(b api.Bits, box api.Box) bool {
	for y := box.Y; y < box.Y+box.H; y++ {
		for x := box.X; x < box.X+box.W; x++ {
			if b.P[y*b.W+x] {
				return true
			}
		}
	}
	return false
}

// tightByTrying takes away columns and rows without ink at the four sides of a box that has ink.
func tightByTrying(b api.Bits, box api.Box) api.Box {
	for again := true; again; {
		again = false
		for _, c := range []api.Box{
			{X: box.X + 1, Y: box.Y, W: box.W - 1, H: box.H}, {X: box.X, Y: box.Y, W: box.W - 1, H: box.H},
			{X: box.X, Y: box.Y + 1, W: box.W, H: box.H - 1}, {X: box.X, Y: box.Y, W: box.W, H: box.H - 1},
		} {
			if !again && len(inked(inBox(b, c))) == len(inked(inBox(b, box))) {
				box, again = c, true
			}
		}
	}
	return box
}

// inBox is a page with only the ink in a box.
func inBox(b api.Bits, box api.Box) api.Bits {
	return pattern(b.W, b.H, func(x, y int) bool {
		return b.P[y*b.W+x] && x >= box.X && x < box.X+box.W && y >= box.Y && y < box.Y+box.H
	})
}

// splitByPixels is P67 word by word.
func splitByPixels(b api.Bits, box api.Box, gapx, gapy int) []api.Box {
	if !hasInk(b, box) {
		return nil
	}
	box = tightByTrying(b, box)
	x, wide := widestEmpty(box.X, box.X+box.W, gapx, func(x int) bool {
		return hasInk(b, api.Box{X: x, Y: box.Y, W: 1, H: box.H})
	})
	y, high := widestEmpty(box.Y, box.Y+box.H, gapy, func(y int) bool {
		return hasInk(b, api.Box{X: box.X, Y: y, W: box.W, H: 1})
	})
	first, second := box, box
	switch {
	case wide == 0 && high == 0:
		return []api.Box{box}
	case high == 0 || wide*gapy > high*gapx:
		first.W = x - box.X
		second.X, second.W = x+wide, box.X+box.W-x-wide
	default:
		first.H = y - box.Y
		second.Y, second.H = y+high, box.Y+box.H-y-high
	}
	return append(splitByPixels(b, first, gapx, gapy), splitByPixels(b, second, gapx, gapy)...)
}

func wantSplit(t *testing.T, b api.Bits, gapx, gapy int, want ...api.Box) {
	t.Helper()
	l, e := part.Split(b, api.Box{W: b.W, H: b.H}, gapx, gapy)
	wantList(t, "Split", l, e, want)
}

func TestSplit(t *testing.T) {
	wantSplit(t, draw("."), 1, 1)
	wantSplit(t, draw("#"), 1, 1, api.Box{W: 1, H: 1})
	// The box becomes as small as its ink also without any cut.
	wantSplit(t, draw(".....", "..#..", "...#.", "....."), 1, 1, api.Box{X: 2, Y: 1, W: 2, H: 2})
	// Rows and columns at the rim do not cut.
	wantSplit(t, draw("...", ".#.", "...", "..."), 1, 1, api.Box{X: 1, Y: 1, W: 1, H: 1})
	// A stretch has to be as wide as gapx, as high as gapy.
	b := draw("#..#")
	wantSplit(t, b, 2, 4000, api.Box{W: 1, H: 1}, api.Box{X: 3, W: 1, H: 1})
	wantSplit(t, b, 3, 1, api.Box{W: 4, H: 1})
	b = draw("#", ".", ".", "#")
	wantSplit(t, b, 4000, 2, api.Box{W: 1, H: 1}, api.Box{Y: 3, W: 1, H: 1})
	wantSplit(t, b, 1, 3, api.Box{W: 1, H: 4})
	// The widest column is cut first, also if it is not the first: it leaves a box above which a row goes through.
	b = draw("#.#..#", "#.#..#", "......", "###..#")
	wantSplit(t, b, 1, 2, api.Box{W: 3, H: 4}, api.Box{X: 5, W: 1, H: 4})
	wantSplit(t, b, 1, 1, api.Box{W: 1, H: 2}, api.Box{X: 2, W: 1, H: 2}, api.Box{Y: 3, W: 3, H: 1},
		api.Box{X: 5, W: 1, H: 2}, api.Box{X: 5, Y: 3, W: 1, H: 1})
	// What is cut is made small anew: the gap between the upper ones is there only without the lower one.
	wantSplit(t, draw("#..#", "....", ".##."), 2, 1, api.Box{W: 1, H: 1}, api.Box{X: 3, W: 1, H: 1}, api.Box{X: 1, Y: 2, W: 2, H: 1})
}

// TestSplitCross has two columns and two rows between four blocks: which are cut first hangs on gapx and gapy.
func TestSplitCross(t *testing.T) {
	b := draw("#..#", "....", "#..#")
	byRows := []api.Box{{W: 1, H: 1}, {X: 3, W: 1, H: 1}, {Y: 2, W: 1, H: 1}, {X: 3, Y: 2, W: 1, H: 1}}
	byColumns := []api.Box{{W: 1, H: 1}, {Y: 2, W: 1, H: 1}, {X: 3, W: 1, H: 1}, {X: 3, Y: 2, W: 1, H: 1}}
	wantSplit(t, b, 1, 1, byColumns...)
	// 2 * 1 is not greater than 1 * 2.
	wantSplit(t, b, 2, 1, byRows...)
	// Of equal stretches, the first is cut first: the middle block goes with the right one, or the lower one.
	wantSplit(t, draw("#.#.#", "#.#.#", "#.#.#"), 1, 1, api.Box{W: 1, H: 3}, api.Box{X: 2, W: 1, H: 3}, api.Box{X: 4, W: 1, H: 3})
}

// TestSplitEqual has stretches of the same width, of which the first is cut first, as is seen by what is cut later.
func TestSplitEqual(t *testing.T) {
	// After the first cut, the right part has a row without ink, but the parts of another order would be others.
	b := draw("#.#.#", "#....", "#.#.#")
	wantSplit(t, b, 1, 1, api.Box{W: 1, H: 3}, api.Box{X: 2, W: 1, H: 1}, api.Box{X: 4, W: 1, H: 1},
		api.Box{X: 2, Y: 2, W: 1, H: 1}, api.Box{X: 4, Y: 2, W: 1, H: 1})
	b = draw("###", "...", "#.#", "...", "#.#")
	wantSplit(t, b, 1, 1, api.Box{W: 3, H: 1}, api.Box{Y: 2, W: 1, H: 1}, api.Box{X: 2, Y: 2, W: 1, H: 1},
		api.Box{Y: 4, W: 1, H: 1}, api.Box{X: 2, Y: 4, W: 1, H: 1})
}

func TestSplitByPixels(t *testing.T) {
	eachMixed(func(b api.Bits) {
		eachBox(b, func(box api.Box) {
			for _, gap := range [][2]int{{1, 1}, {1, 2}, {2, 1}, {2, 3}, {3, 3}, {5, 2}, {4000, 1}, {1, 4000}, {4000, 4000}} {
				l, e := part.Split(b, box, gap[0], gap[1])
				if !wantList(t, "Split", l, e, splitByPixels(b, box, gap[0], gap[1])) {
					t.Log(picture(b), box, gap)
				}
			}
		})
	})
}

func TestSplitErrors(t *testing.T) {
	b := draw("#.#", "...")
	for _, box := range wrongBoxes(3, 2) {
		for _, gap := range []int{1, 0, 4001} {
			l, e := part.Split(b, box, gap, gap)
			failList(t, "Split", l, e, api.ErrPlace)
		}
	}
	for _, box := range []api.Box{{W: 3, H: 2}, {Y: 1, W: 3, H: 1}} {
		for _, n := range wrongNumbers(1, 4000) {
			l, e := part.Split(b, box, n, 1)
			failList(t, "Split", l, e, api.ErrRange)
			l, e = part.Split(b, box, 4000, n)
			failList(t, "Split", l, e, api.ErrRange)
			l, e = part.Split(b, box, n, n)
			failList(t, "Split", l, e, api.ErrRange)
		}
	}
}

// TestSplitLarge has just as many blocks as there can be, and one more.
func TestSplitLarge(t *testing.T) {
	dots := func(w, h, n int) api.Bits {
		return pattern(w, h, func(x, y int) bool { return x%2 == 0 && y%2 == 0 && y/2*(w/2)+x/2 < n })
	}
	b := dots(1000, 1000, 5000)
	l, e := part.Split(b, api.Box{W: 1000, H: 1000}, 1, 1)
	if e != api.OK || len(l) != 5000 || l[0] != (api.Box{W: 1, H: 1}) || l[1] != (api.Box{X: 2, W: 1, H: 1}) ||
		l[4999] != (api.Box{X: 998, Y: 18, W: 1, H: 1}) {
		t.Error("Split", len(l), e)
	}
	l, e = part.Split(b, api.Box{Y: 2, W: 1000, H: 998}, 1, 1)
	if e != api.OK || len(l) != 4500 {
		t.Error("Split", len(l), e)
	}
	for _, n := range []int{5001, 10000, 250000} {
		l, e = part.Split(dots(1000, 1000, n), api.Box{W: 1000, H: 1000}, 1, 1)
		failList(t, "Split", l, e, api.ErrLarge)
	}
	// As one block, it is not too large.
	l, e = part.Split(dots(1000, 1000, 250000), api.Box{W: 1000, H: 1000}, 2, 2)
	wantList(t, "Split", l, e, []api.Box{{W: 999, H: 999}})
}
