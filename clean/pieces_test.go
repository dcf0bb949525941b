package clean_test

import (
	"testing"

	"flatbed/api"
	"flatbed/clean"
)

// groupsByLabels gives each pixel of a colour the least number of all that are joined with it; others have -1. Ink is
// joined also by corners.
func groupsByLabels(b api.Bits, ink bool) []int {
	labels := make([]int, len(b.P))
	for i := range labels {
		labels[i] = -1
		if b.P[i] == ink {
			labels[i] = i
		}
	}
	for again := true; again; {
		again = false
		for i := range labels {
			eachAround(b.W, b.H, i%b.W, i/b.W, 1, func(at int) {
				beside := ink || at%b.W == i%b.W || at/b.W == i/b.W
				if beside && labels[at] >= 0 && labels[i] > labels[at] {
					labels[i], again = labels[at], true
				}
			})
		}
	}
	return labels
}

// changeByLabels is P29: the groups that wanted chooses are turned over and counted.
func changeByLabels(b api.Bits, ink bool, wanted func(group []int) bool) (api.Bits, int) {
	labels := groupsByLabels(b, ink)
	c := plain(b.W, b.H, false)
	copy(c.P, b.P)
	n := 0
	for first := range labels {
		var group []int
		for i, label := range labels {
			if label == first {
				group = append(group, i)
			}
		}
		if len(group) == 0 || !wanted(group) {
			continue
		}
		n++
		for _, i := range group {
			c.P[i] = !ink
		}
	}
	return c, n
}

// wantByLabels holds what a call makes of many pages against changeByLabels.
func wantByLabels(t *testing.T, what string, call func(api.Bits, int) (api.Bits, int, api.Errno), ink bool,
	wanted func(b api.Bits, group []int, most int) bool) {
	t.Helper()
	eachMixed(func(b api.Bits) {
		for _, most := range []int{0, 1, 2, 3, 5, 12, 40, 2000, api.MaxPixels} {
			want, count := changeByLabels(b, ink, func(group []int) bool { return wanted(b, group, most) })
			c, n, e := call(b, most)
			wantCounted(t, what, c, n, e, want, count)
		}
	})
}

func touches(b api.Bits, group []int) bool {
	for _, i := range group {
		if x, y := i%b.W, i/b.W; x == 0 || y == 0 || x == b.W-1 || y == b.H-1 {
			return true
		}
	}
	return false
}

func within(b api.Bits, group []int, most int) bool {
	left, top, right, bottom := true, true, true, true
	for _, i := range group {
		x, y := i%b.W, i/b.W
		left, top = left && x <= most, top && y <= most
		right, bottom = right && b.W-1-x <= most, bottom && b.H-1-y <= most
	}
	return left || top || right || bottom
}

func TestSpecks(t *testing.T) {
	b := draw("#....", "..##.", "....#", "#.#..")
	for most, want := range map[int]struct {
		b api.Bits
		n int
	}{
		0:             {b, 0},
		1:             {draw(".....", "..##.", "....#", "....."), 3},
		2:             {draw(".....", "..##.", "....#", "....."), 3},
		3:             {plain(5, 4, false), 4},
		api.MaxPixels: {plain(5, 4, false), 4},
	} {
		c, n, e := clean.Specks(b, most)
		wantCounted(t, "Specks", c, n, e, want.b, want.n)
	}
	// Pieces are joined also by corners, but not from the end of a row to the start of the next one.
	c, n, e := clean.Specks(draw("#...", ".#.#", "#..."), 1)
	wantCounted(t, "Specks", c, n, e, draw("#...", ".#..", "#..."), 1)
	c, n, e = clean.Specks(draw("...#", "#..."), 1)
	wantCounted(t, "Specks", c, n, e, draw("....", "...."), 2)
	c, n, e = clean.Specks(draw("#"), 1)
	wantCounted(t, "Specks", c, n, e, draw("."), 1)
	c, n, e = clean.Specks(plain(3, 3, false), 9)
	wantCounted(t, "Specks", c, n, e, plain(3, 3, false), 0)
	wantByLabels(t, "Specks", clean.Specks, true, func(b api.Bits, group []int, most int) bool {
		return len(group) <= most
	})
}

func TestHoles(t *testing.T) {
	c, n, e := clean.Holes(draw("####.", "#.#..", "####."), 1)
	wantCounted(t, "Holes", c, n, e, draw("####.", "###..", "####."), 1)
	// Gaps are joined by sides alone: these are two, of 1 and of 2 pixels.
	b := draw("#####", "#.###", "##..#", "#####")
	for most, want := range map[int]struct {
		b api.Bits
		n int
	}{
		0:             {b, 0},
		1:             {draw("#####", "#####", "##..#", "#####"), 1},
		2:             {plain(5, 4, true), 2},
		api.MaxPixels: {plain(5, 4, true), 2},
	} {
		c, n, e := clean.Holes(b, most)
		wantCounted(t, "Holes", c, n, e, want.b, want.n)
	}
	// A gap at a border stays, also if it is at it with one pixel only; a corner does not join it with another one.
	for _, b := range []api.Bits{
		draw("#.##", "#..#", "####"), draw("####", "#..#", "##.#"), draw("####", "...#", "####"), draw("####", "#...", "####"),
		draw("."), plain(4, 4, false), plain(4, 4, true),
	} {
		c, n, e := clean.Holes(b, api.MaxPixels)
		wantCounted(t, "Holes", c, n, e, b, 0)
	}
	c, n, e = clean.Holes(draw(".###", "#.##", "####"), 1)
	wantCounted(t, "Holes", c, n, e, draw(".###", "####", "####"), 1)
	// A piece within a hole stays.
	c, n, e = clean.Holes(draw("#####", "#...#", "#.#.#", "#...#", "#####"), 8)
	wantCounted(t, "Holes", c, n, e, plain(5, 5, true), 1)
	c, n, e = clean.Holes(draw("#####", "#...#", "#.#.#", "#...#", "#####"), 7)
	wantCounted(t, "Holes", c, n, e, draw("#####", "#...#", "#.#.#", "#...#", "#####"), 0)
	wantByLabels(t, "Holes", clean.Holes, false, func(b api.Bits, group []int, most int) bool {
		return len(group) <= most && !touches(b, group)
	})
}

func TestBorder(t *testing.T) {
	b := draw("##...", "#..#.", "#....", "...##")
	c, n, e := clean.Border(b, 0)
	wantCounted(t, "Border", c, n, e, draw("##...", "#..#.", "#....", "....."), 1)
	c, n, e = clean.Border(b, 1)
	wantCounted(t, "Border", c, n, e, draw(".....", "...#.", ".....", "....."), 2)
	// A bar along each border, two pixels wide; what lies within the page stays.
	for _, c := range []struct{ from, want api.Bits }{
		{draw("##....", "##....", "##..#.", "##....", "##...."), draw("......", "......", "....#.", "......", "......")},
		{draw("....##", "....##", ".#..##", "....##", "....##"), draw("......", "......", ".#....", "......", "......")},
		{draw("######", "######", "......", ".#....", "......"), draw("......", "......", "......", ".#....", "......")},
		{draw("......", ".#....", "......", "######", "######"), draw("......", ".#....", "......", "......", "......")},
	} {
		b, n, e := clean.Border(c.from, 0)
		wantCounted(t, "Border", b, n, e, c.from, 0)
		b, n, e = clean.Border(c.from, 1)
		wantCounted(t, "Border", b, n, e, c.want, 1)
	}
	// All pixels have to be near to the same border: a corner of two long legs is not.
	corner := draw("#####", "#....", "#....", "#....", "#....")
	c, n, e = clean.Border(corner, 3)
	wantCounted(t, "Border", c, n, e, corner, 0)
	c, n, e = clean.Border(corner, 4)
	wantCounted(t, "Border", c, n, e, plain(5, 5, false), 1)
	// The border to which all are near need not be the one that is touched.
	c, n, e = clean.Border(draw(".....", "###..", ".....", "....."), 1)
	wantCounted(t, "Border", c, n, e, plain(5, 4, false), 1)
	// A piece that only comes near to the border stays.
	c, n, e = clean.Border(draw(".....", ".###.", ".....", "....."), api.MaxPixels)
	wantCounted(t, "Border", c, n, e, draw(".....", ".###.", ".....", "....."), 0)
	c, n, e = clean.Border(draw("#"), 0)
	wantCounted(t, "Border", c, n, e, draw("."), 1)
	wantByLabels(t, "Border", clean.Border, true, func(b api.Bits, group []int, most int) bool {
		return touches(b, group) && within(b, group, most)
	})
}

func TestPiecesOutOfRange(t *testing.T) {
	for _, most := range wrongNumbers(0, api.MaxPixels) {
		b, n, e := clean.Specks(draw("#"), most)
		failCounted(t, "Specks", b, n, e, api.ErrRange)
		b, n, e = clean.Holes(draw("#"), most)
		failCounted(t, "Holes", b, n, e, api.ErrRange)
		b, n, e = clean.Border(draw("#"), most)
		failCounted(t, "Border", b, n, e, api.ErrRange)
	}
}
