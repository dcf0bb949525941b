package part_test

import (
	"slices"
	"testing"

	"flatbed/api"
	"flatbed/part"
)

func sameBlocks(a, b []api.Block) bool {
	return slices.EqualFunc(a, b, func(x, y api.Block) bool {
		return x.Box == y.Box && slices.EqualFunc(x.Lines, y.Lines, func(l, m api.TextLine) bool {
			return l.Box == m.Box && l.Base == m.Base && slices.Equal(l.Words, m.Words)
		})
	})
}

func wantLayout(t *testing.T, b api.Bits, w api.Ways, want []api.Block) {
	t.Helper()
	l, e := part.Layout(b, w)
	if e != api.OK || !sameBlocks(l, want) {
		t.Errorf("Layout by %v: error %d, got %v\nwant %v%s", w, e, l, want, picture(b))
	}
}

// withoutSpecks is the page without pieces of fewer than least pixels.
func withoutSpecks(b api.Bits, least int) api.Bits {
	c := plain(b.W, b.H, false)
	for _, group := range inkGroups(b) {
		for _, at := range group {
			c.P[at.Y*b.W+at.X] = len(group) >= least
		}
	}
	return c
}

// layoutByPixels is P71 word by word.
func layoutByPixels(b api.Bits, w api.Ways) []api.Block {
	b = withoutSpecks(b, w.Least)
	var l []api.Block
	for _, box := range splitByPixels(b, api.Box{W: b.W, H: b.H}, w.GapX, w.GapY) {
		block := api.Block{Box: box}
		for _, line := range rowsByPixels(b, box, w.Line) {
			gap := w.Word
			if gap == 0 {
				gap = gapByPlaces(b, line)
			}
			block.Lines = append(block.Lines, api.TextLine{Box: line, Base: baseByPieces(b, line), Words: wordsByPixels(b, line, gap)})
		}
		l = append(l, block)
	}
	return l
}

func someWays() []api.Ways {
	return []api.Ways{
		{Least: 1, GapX: 4, GapY: 4, Line: 1, Word: 1}, {Least: 2, GapX: 3, GapY: 2, Line: 1, Word: 0},
		{Least: 4, GapX: 2, GapY: 5, Line: 2, Word: 2}, {Least: 9, GapX: 1, GapY: 1, Line: 1, Word: 3},
		{Least: 1, GapX: 4000, GapY: 4000, Line: 1, Word: 0}, {Least: 3, GapX: 4000, GapY: 4000, Line: 4000, Word: 4000},
		{Least: 1 << 20, GapX: 1, GapY: 1, Line: 1, Word: 0},
	}
}

func TestLayout(t *testing.T) {
	b := draw(
		"##.##....#",
		"##.##....#",
		"..........",
		"#.........",
		"..........",
		"###.......",
	)
	line := func(box api.Box, base int, words ...api.Box) api.TextLine {
		return api.TextLine{Box: box, Base: base, Words: words}
	}
	block := func(box api.Box, lines ...api.TextLine) api.Block { return api.Block{Box: box, Lines: lines} }
	left, high, low := api.Box{W: 5, H: 6}, api.Box{W: 5, H: 2}, api.Box{Y: 5, W: 3, H: 1}
	one, two, speck := api.Box{W: 2, H: 2}, api.Box{X: 3, W: 2, H: 2}, api.Box{Y: 3, W: 1, H: 1}
	right := api.Box{X: 9, W: 1, H: 2}
	rightBlock := block(right, line(right, 1, right))
	for _, c := range []struct {
		ways api.Ways
		want []api.Block
	}{
		{api.Ways{Least: 1, GapX: 4, GapY: 4, Line: 1, Word: 1}, []api.Block{
			block(left, line(high, 1, one, two), line(speck, 3, speck), line(low, 5, low)), rightBlock,
		}},
		// Without the speck there are three rows between the lines.
		{api.Ways{Least: 2, GapX: 4, GapY: 4, Line: 3, Word: 1}, []api.Block{
			block(left, line(high, 1, one, two), line(low, 5, low)), rightBlock,
		}},
		{api.Ways{Least: 2, GapX: 4, GapY: 4, Line: 4, Word: 2}, []api.Block{
			block(left, line(left, 1, left)), rightBlock,
		}},
		// 4 * 3 is not greater than 3 * 4, but 4 * 3 is greater than 3 * 3.
		{api.Ways{Least: 2, GapX: 4, GapY: 3, Line: 1, Word: 2}, []api.Block{
			block(high, line(high, 1, high)), rightBlock, block(low, line(low, 5, low)),
		}},
		{api.Ways{Least: 2, GapX: 3, GapY: 3, Line: 1, Word: 2}, []api.Block{
			block(high, line(high, 1, high)), block(low, line(low, 5, low)), rightBlock,
		}},
		// The widths are 1, which gives a gap of 2 by itself, and 1 and 4, which gives 4.
		{api.Ways{Least: 2, GapX: 4, GapY: 4, Line: 1, Word: 0}, []api.Block{
			block(left, line(high, 1, high), line(low, 5, low)), rightBlock,
		}},
		{api.Ways{Least: 3, GapX: 5, GapY: 3, Line: 1, Word: 0}, []api.Block{
			block(high, line(high, 1, high)), block(low, line(low, 5, low)),
		}},
		{api.Ways{Least: 2, GapX: 5, GapY: 4, Line: 1, Word: 0}, []api.Block{
			block(api.Box{W: 10, H: 6}, line(api.Box{W: 10, H: 2}, 1, high, right), line(low, 5, low)),
		}},
		{api.Ways{Least: 5, GapX: 1, GapY: 1, Line: 1, Word: 0}, nil},
		{api.Ways{Least: api.MaxPixels, GapX: 4000, GapY: 4000, Line: 4000, Word: 4000}, nil},
	} {
		wantLayout(t, b, c.ways, c.want)
	}
	for _, way := range someWays() {
		wantLayout(t, plain(3, 4, false), way, nil)
	}
}

func TestLayoutByPixels(t *testing.T) {
	eachMixed(func(b api.Bits) {
		for _, w := range someWays() {
			wantLayout(t, b, w, layoutByPixels(b, w))
		}
	})
}

// TestInkIsInOneWord counts for each pixel the words that have it: one, if it is ink but no speck; otherwise at most one.
func TestInkIsInOneWord(t *testing.T) {
	eachMixed(func(b api.Bits) {
		for _, w := range someWays() {
			l, e := part.Layout(b, w)
			if e != api.OK {
				t.Fatal("Layout", e)
			}
			counts := make([]int, len(b.P))
			for _, box := range part.Flat(l) {
				for y := box.Y; y < box.Y+box.H; y++ {
					for x := box.X; x < box.X+box.W; x++ {
						counts[y*b.W+x]++
					}
				}
			}
			kept := withoutSpecks(b, w.Least)
			for i, n := range counts {
				if n > 1 || n < 1 && kept.P[i] {
					t.Fatal("a pixel is in", n, "words", i, w, picture(b))
				}
			}
		}
	})
}

func TestFlat(t *testing.T) {
	word := func(x int) api.Box { return api.Box{X: x, Y: mostInt, W: leastInt} }
	l := []api.Block{
		{Lines: []api.TextLine{{Words: []api.Box{word(5), word(3)}}, {}, {Words: []api.Box{word(9)}}}},
		{},
		{Lines: []api.TextLine{{}}},
		{Lines: []api.TextLine{{Box: word(1), Words: []api.Box{word(-4), word(5)}}}},
	}
	wantList(t, "Flat", part.Flat(l), api.OK, []api.Box{word(5), word(3), word(9), word(-4), word(5)})
	wantList(t, "Flat", part.Flat(nil), api.OK, nil)
	wantList(t, "Flat", part.Flat(l[1:3]), api.OK, nil)
}

func TestLayoutOutOfRange(t *testing.T) {
	b := draw("#.#", "...")
	good := api.Ways{Least: 1, GapX: 1, GapY: 1, Line: 1, Word: 1}
	for _, n := range append(wrongNumbers(1, 4000), 0) {
		for _, set := range []func(w *api.Ways){
			func(w *api.Ways) { w.GapX = n },
			func(w *api.Ways) { w.GapY = n },
			func(w *api.Ways) { w.Line = n },
			func(w *api.Ways) { *w = api.Ways{Least: 1, GapX: n, GapY: n, Line: n} },
		} {
			w := good
			set(&w)
			l, e := part.Layout(b, w)
			failList(t, "Layout", l, e, api.ErrRange)
			l, e = part.Layout(plain(3, 3, false), w)
			failList(t, "Layout", l, e, api.ErrRange)
		}
	}
	for _, n := range wrongNumbers(0, 4000) {
		w := good
		w.Word = n
		l, e := part.Layout(b, w)
		failList(t, "Layout", l, e, api.ErrRange)
		l, e = part.Layout(plain(3, 3, false), w)
		failList(t, "Layout", l, e, api.ErrRange)
	}
	for _, n := range wrongNumbers(1, api.MaxPixels) {
		w := good
		w.Least = n
		l, e := part.Layout(b, w)
		failList(t, "Layout", l, e, api.ErrRange)
		l, e = part.Layout(plain(3, 3, false), w)
		failList(t, "Layout", l, e, api.ErrRange)
	}
	l, e := part.Layout(b, api.Ways{})
	failList(t, "Layout", l, e, api.ErrRange)
}

// TestLayoutTooLarge has more blocks than there can be, unless most of them are specks.
func TestLayoutTooLarge(t *testing.T) {
	b := pattern(300, 300, func(x, y int) bool { return x%3 < 1+y%3/2 && y%3 > 0 })
	l, e := part.Layout(b, api.Ways{Least: 3, GapX: 1, GapY: 1, Line: 1, Word: 1})
	failList(t, "Layout", l, e, api.ErrLarge)
	wantLayout(t, b, api.Ways{Least: 4, GapX: 1, GapY: 1, Line: 1, Word: 1}, nil)
}
