package part_test

import (
	"slices"
	"testing"

	"flatbed/api"
	"flatbed/part"
)

// rowsByPixels is P69 for Rows, word by word.
func rowsByPixels(b api.Bits, box api.Box, gap int) []api.Box {
	var l []api.Box
	empty := gap
	for y := box.Y; y < box.Y+box.H; y++ {
		if !hasInk(b, api.Box{X: box.X, Y: y, W: box.W, H: 1}) {
			empty++
			continue
		}
		if empty >= gap {
			l = append(l, api.Box{X: box.X, Y: y, W: box.W})
		}
		l[len(l)-1].H = y + 1 - l[len(l)-1].Y
		empty = 0
	}
	for i := range l {
		l[i] = tightByTrying(b, l[i])
	}
	return l
}

// acrossBits exchanges x and y, so that columns are rows; acrossBox does so with a box.
func acrossBits(b api.Bits) api.Bits {
	return pattern(b.H, b.W, func(x, y int) bool { return b.P[x*b.W+y] })
}

func acrossBox(b api.Box) api.Box { return api.Box{X: b.Y, Y: b.X, W: b.H, H: b.W} }

func wordsByPixels(b api.Bits, box api.Box, gap int) []api.Box {
	l := rowsByPixels(acrossBits(b), acrossBox(box), gap)
	for i := range l {
		l[i] = acrossBox(l[i])
	}
	return l
}

func TestRows(t *testing.T) {
	b := draw(
		"......",
		"..##..",
		"......",
		".#....",
		"......",
		"......",
		"....##",
		"...#..",
	)
	whole := api.Box{W: 6, H: 8}
	for _, c := range []struct {
		box  api.Box
		gap  int
		want []api.Box
	}{
		{whole, 1, []api.Box{{X: 2, Y: 1, W: 2, H: 1}, {X: 1, Y: 3, W: 1, H: 1}, {X: 3, Y: 6, W: 3, H: 2}}},
		{whole, 2, []api.Box{{X: 1, Y: 1, W: 3, H: 3}, {X: 3, Y: 6, W: 3, H: 2}}},
		{whole, 3, []api.Box{{X: 1, Y: 1, W: 5, H: 7}}},
		{whole, 4000, []api.Box{{X: 1, Y: 1, W: 5, H: 7}}},
		// Ink beside the box, above and below does not count.
		{api.Box{X: 2, W: 3, H: 7}, 1, []api.Box{{X: 2, Y: 1, W: 2, H: 1}, {X: 4, Y: 6, W: 1, H: 1}}},
		{api.Box{X: 2, W: 3, H: 7}, 4, []api.Box{{X: 2, Y: 1, W: 2, H: 1}, {X: 4, Y: 6, W: 1, H: 1}}},
		{api.Box{X: 2, W: 3, H: 7}, 5, []api.Box{{X: 2, Y: 1, W: 3, H: 6}}},
		{api.Box{Y: 4, W: 6, H: 2}, 1, nil},
		{api.Box{W: 1, H: 8}, 4000, nil},
		{api.Box{X: 3, Y: 7, W: 1, H: 1}, 1, []api.Box{{X: 3, Y: 7, W: 1, H: 1}}},
	} {
		l, e := part.Rows(b, c.box, c.gap)
		wantList(t, "Rows", l, e, c.want)
		l, e = part.Words(acrossBits(b), acrossBox(c.box), c.gap)
		for i := range l {
			l[i] = acrossBox(l[i])
		}
		wantList(t, "Words", l, e, c.want)
	}
	l, e := part.Words(draw("#..#.", "...##"), api.Box{W: 5, H: 2}, 2)
	wantList(t, "Words", l, e, []api.Box{{W: 1, H: 1}, {X: 3, W: 2, H: 2}})
}

func TestRowsByPixels(t *testing.T) {
	eachMixed(func(b api.Bits) {
		eachBox(b, func(box api.Box) {
			for _, gap := range []int{1, 2, 3, 4, 7, 4000} {
				l, e := part.Rows(b, box, gap)
				wantList(t, "Rows", l, e, rowsByPixels(b, box, gap))
				l, e = part.Words(b, box, gap)
				wantList(t, "Words", l, e, wordsByPixels(b, box, gap))
			}
		})
	})
}

// spaced is a line of pixels with gaps of these widths between.
func spaced(widths ...int) api.Bits {
	b := api.Bits{H: 1, P: []bool{true}}
	for _, n := range widths {
		b.P = append(b.P, slices.Repeat([]bool{false}, n)...)
		b.P = append(b.P, true)
	}
	b.W = len(b.P)
	return b
}

func TestGap(t *testing.T) {
	for _, c := range []struct {
		widths []int
		want   int
	}{
		{nil, 1}, {[]int{1}, 2}, {[]int{7}, 8}, {[]int{3, 3, 3}, 4},
		// A step of 1 is none.
		{[]int{1, 2}, 3}, {[]int{4, 2, 3, 1, 5}, 6},
		{[]int{1, 3}, 3}, {[]int{3, 1}, 3}, {[]int{1, 1, 2, 9, 8, 1}, 8},
		// Of several equal steps it is the last one, of others the greatest.
		{[]int{1, 3, 5, 7}, 7}, {[]int{7, 4, 1, 6}, 4}, {[]int{1, 4, 5, 8, 9}, 8}, {[]int{1, 4, 6}, 4}, {[]int{1, 3, 6}, 6},
		{[]int{2, 1, 2, 5, 6, 1, 2, 5, 30}, 30}, {[]int{100}, 101},
	} {
		b := spaced(c.widths...)
		n, e := part.Gap(b, api.Box{W: b.W, H: 1})
		wantInt(t, "Gap", n, e, c.want)
	}
	// What is empty at the rim is no gap, and ink beside the box does not count.
	b := draw("#.........", "..#..#....", ".........#")
	n, e := part.Gap(b, api.Box{Y: 1, W: 10, H: 1})
	wantInt(t, "Gap", n, e, 3)
	n, e = part.Gap(b, api.Box{W: 9, H: 2})
	wantInt(t, "Gap", n, e, 3)
	n, e = part.Gap(b, api.Box{W: 10, H: 3})
	wantInt(t, "Gap", n, e, 4)
	n, e = part.Gap(b, api.Box{X: 6, W: 3, H: 3})
	wantInt(t, "Gap", n, e, 1)
}

// gapByPlaces is P69 for Gap, word by word.
func gapByPlaces(b api.Bits, box api.Box) int {
	words := wordsByPixels(b, box, 1)
	var w []int
	for i := 1; i < len(words); i++ {
		w = append(w, words[i].X-words[i-1].X-words[i-1].W)
	}
	slices.Sort(w)
	if len(w) == 0 {
		return 1
	}
	greatest := 0
	for i := 1; i < len(w); i++ {
		greatest = max(greatest, w[i]-w[i-1])
	}
	for i := len(w) - 1; i > 0; i-- {
		if greatest >= 2 && w[i]-w[i-1] == greatest {
			return w[i]
		}
	}
	return w[len(w)-1] + 1
}

// baseByPieces is P69 for Base, word by word; without ink it is -1.
func baseByPieces(b api.Bits, box api.Box) int {
	pieces := piecesByLabels(inBox(b, box))
	base, most := -1, 0
	for y := box.Y + box.H - 1; y >= box.Y; y-- {
		n := 0
		for _, p := range pieces {
			if p.Box.Y+p.Box.H-1 == y {
				n++
			}
		}
		if n > most {
			base, most = y, n
		}
	}
	return base
}

func TestGapAndBaseByPixels(t *testing.T) {
	eachMixed(func(b api.Bits) {
		eachBox(b, func(box api.Box) {
			n, e := part.Gap(b, box)
			wantInt(t, "Gap", n, e, gapByPlaces(b, box))
			n, e = part.Base(b, box)
			if want := baseByPieces(b, box); want >= 0 {
				wantInt(t, "Base", n, e, want)
			} else {
				failInt(t, "Base", n, e, api.ErrEmpty)
			}
		})
	})
}

func TestBase(t *testing.T) {
	b := draw(
		".......#.",
		"#.#.#..#.",
		"#.#.#....",
		"#.#.#..#.",
		"..#......",
		"..#.##...",
		"....##..#",
	)
	for _, c := range []struct {
		box  api.Box
		want int
	}{
		{api.Box{W: 9, H: 7}, 3},
		{api.Box{X: 3, Y: 2, W: 6, H: 5}, 6},
		{api.Box{W: 6, H: 5}, 3},
		// The piece in the middle ends with the box here.
		{api.Box{Y: 1, W: 4, H: 3}, 3},
		{api.Box{X: 1, Y: 1, W: 2, H: 4}, 4},
		// Of several rows it is the lowest one: three pieces end on three rows.
		{api.Box{X: 2, W: 6, H: 4}, 3},
		{api.Box{X: 7, W: 1, H: 7}, 3},
		{api.Box{X: 7, W: 2, H: 7}, 6},
		{api.Box{X: 7, W: 1, H: 1}, 0},
	} {
		n, e := part.Base(b, c.box)
		wantInt(t, "Base", n, e, c.want)
	}
	// The part within the box falls into two pieces, which end above the third one.
	n, e := part.Base(draw("#.#.#", "#.#.#", "....#", "###.."), api.Box{W: 5, H: 3})
	wantInt(t, "Base", n, e, 1)
	for _, box := range []api.Box{{X: 1, Y: 0, W: 1, H: 7}, {W: 7, H: 1}, {W: 1, H: 1}, {Y: 4, W: 2, H: 3}} {
		n, e := part.Base(b, box)
		failInt(t, "Base", n, e, api.ErrEmpty)
	}
}

func TestLineErrors(t *testing.T) {
	b := draw("#.#", "...")
	for _, box := range wrongBoxes(3, 2) {
		for _, gap := range []int{1, 0, 4001} {
			l, e := part.Rows(b, box, gap)
			failList(t, "Rows", l, e, api.ErrPlace)
			l, e = part.Words(b, box, gap)
			failList(t, "Words", l, e, api.ErrPlace)
		}
		n, e := part.Gap(b, box)
		failInt(t, "Gap", n, e, api.ErrPlace)
		n, e = part.Base(b, box)
		failInt(t, "Base", n, e, api.ErrPlace)
	}
	for _, box := range []api.Box{{W: 3, H: 2}, {Y: 1, W: 3, H: 1}} {
		for _, n := range wrongNumbers(1, 4000) {
			l, e := part.Rows(b, box, n)
			failList(t, "Rows", l, e, api.ErrRange)
			l, e = part.Words(b, box, n)
			failList(t, "Words", l, e, api.ErrRange)
		}
	}
}
