package skew_test

import (
	"testing"

	"flatbed/api"
	"flatbed/page"
	"flatbed/skew"
)

func TestUpright(t *testing.T) {
	for _, c := range []struct {
		page api.Bits
		want int
	}{
		{draw("......", "######", "......", "####.."), 0},
		{draw("#.#", "#.#", "#.#", "#..", "#.."), 1},
		{draw("#"), 0},
		{draw("##"), 0},
		{draw("#", "#"), 1},
		{draw("#.", ".#"), 0},
		{draw("##", "##"), 0},
		{draw("##", "#."), 0},
		{draw("##.", "##.", "#.."), 1},
		{draw("###", "##.", "#.."), 0},
		// 3 * 3 + 1 * 1 in rows, and 2 * 2 + 1 * 1 + 1 * 1 in columns.
		{draw("###", "#.."), 0},
		{draw("##", "#.", "#."), 1},
	} {
		n, e := skew.Upright(c.page)
		wantInt(t, "Upright"+picture(c.page), n, e, c.want)
	}
	for _, b := range []api.Bits{draw("."), draw("...", "..."), plain(1024, 1024, false)} {
		n, e := skew.Upright(b)
		failInt(t, "Upright", n, e, api.ErrNone)
	}
}

func TestUprightOfMixed(t *testing.T) {
	eachMixed(func(b api.Bits) {
		if !hasInk(b) {
			return
		}
		want := 0
		if slantScore(b, 0) > squares(profileByPixels(b, 0)) {
			want = 1
		}
		n, e := skew.Upright(b)
		wantInt(t, "Upright"+picture(b), n, e, want)
		// Where both sums are equal, neither of the two pages is turned.
		c, _ := page.Turn(b, 1)
		m, e := skew.Upright(c)
		if e != api.OK || want+m > 1 {
			t.Error(picture(b), n, m, e)
		}
	})
}

func TestSheet(t *testing.T) {
	// a to e are dark, below 50.
	g := shade("aaaaaa", "aazzza", "bazzza", "ecazza", "aaaaaa")
	for _, c := range []struct {
		page        api.Gray
		level, part int
		want        api.Box
	}{
		{g, 50, 1000, api.Box{X: 2, Y: 1, W: 3, H: 3}},
		{g, 41, 1000, api.Box{X: 2, Y: 1, W: 3, H: 3}},
		// What is as light as the level is not dark.
		{g, 40, 1000, api.Box{X: 0, Y: 1, W: 5, H: 3}},
		{g, 0, 1, api.Box{W: 6, H: 5}},
		{g, 0, 1000, api.Box{W: 6, H: 5}},
		// The fourth row has 4 of 6 dark pixels: 666.7 thousandths.
		{g, 50, 666, api.Box{X: 2, Y: 1, W: 3, H: 2}},
		{g, 50, 667, api.Box{X: 2, Y: 1, W: 3, H: 3}},
		// The third column has 3 of 5: just 600.
		{g, 50, 601, api.Box{X: 2, Y: 1, W: 3, H: 2}},
		{g, 50, 600, api.Box{X: 3, Y: 1, W: 2, H: 2}},
		{shade("z"), 250, 1, api.Box{W: 1, H: 1}},
		{shade("z"), 250, 1000, api.Box{W: 1, H: 1}},
		// Ground between is not taken away.
		{shade("zzz", "aaa", "zzz"), 50, 1000, api.Box{W: 3, H: 3}},
		{shade("zaz", "zaz", "aaa"), 50, 1000, api.Box{W: 3, H: 2}},
		{shade("aaaaa", "azaza", "aaaaa", "azaza", "aaaaa"), 50, 1000, api.Box{X: 1, Y: 1, W: 3, H: 3}},
		// One row or column of ground on one side only.
		{shade("aaa", "zzz"), 50, 1000, api.Box{Y: 1, W: 3, H: 1}},
		{shade("zzz", "aaa"), 50, 1000, api.Box{W: 3, H: 1}},
		{shade("az", "az"), 50, 1000, api.Box{X: 1, W: 1, H: 2}},
		{shade("za", "za"), 50, 1000, api.Box{W: 1, H: 2}},
	} {
		box, e := skew.Sheet(c.page, c.level, c.part)
		if e != api.OK || box != c.want {
			t.Error("Sheet", c.page.P, c.level, c.part, box, e, c.want)
		}
	}
}

// TestSheetOfWhole has columns whose part is another one when only the rows that are left count.
func TestSheetOfWhole(t *testing.T) {
	g := shade("aaaa", "azzz", "zzzz", "aaaa")
	// The first column has 3 of 4 dark pixels, the others 2 of 4.
	for part, want := range map[int]api.Box{
		1000: {Y: 1, W: 4, H: 2}, 751: {Y: 1, W: 4, H: 2}, 750: {X: 1, Y: 1, W: 3, H: 2}, 501: {X: 1, Y: 1, W: 3, H: 2},
	} {
		if box, e := skew.Sheet(g, 50, part); e != api.OK || box != want {
			t.Error("Sheet", part, box, e, want)
		}
	}
	// All columns are ground, though there are rows that are not.
	box, e := skew.Sheet(g, 50, 500)
	failBox(t, box, e, api.ErrNone)
	c, _ := page.TurnGray(g, 1)
	box, e = skew.Sheet(c, 50, 500)
	failBox(t, box, e, api.ErrNone)
}

// sheetByPixels is P49 pixel by pixel.
func sheetByPixels(g api.Gray, level, part int) (api.Box, api.Errno) {
	left, top, right, bottom := g.W, g.H, -1, -1
	for i := range g.P {
		x, y := i%g.W, i/g.W
		if dark := darkIn(g, level, 0, y, g.W, y+1); dark*1000 < part*g.W {
			top, bottom = min(top, y), max(bottom, y)
		}
		if dark := darkIn(g, level, x, 0, x+1, g.H); dark*1000 < part*g.H {
			left, right = min(left, x), max(right, x)
		}
	}
	if right < 0 || bottom < 0 {
		return api.Box{}, api.ErrNone
	}
	return api.Box{X: left, Y: top, W: right - left + 1, H: bottom - top + 1}, api.OK
}

func darkIn(g api.Gray, level, left, top, right, bottom int) int {
	n := 0
	for y := top; y < bottom; y++ {
		for x := left; x < right; x++ {
			if int(g.P[y*g.W+x]) < level {
				n++
			}
		}
	}
	return n
}

func TestSheetOfMixed(t *testing.T) {
	for _, size := range [][2]int{{1, 1}, {1, 2}, {2, 1}, {9, 4}, {7, 8}, {23, 12}} {
		g := mixed(size[0], size[1])
		for level := 0; level <= 256; level += 16 {
			for _, part := range []int{1, 2, 111, 112, 125, 126, 250, 333, 334, 500, 501, 625, 750, 875, 999, 1000} {
				box, e := skew.Sheet(g, level, part)
				if want, f := sheetByPixels(g, level, part); box != want || e != f {
					t.Error("Sheet", size, level, part, box, e, want, f)
				}
			}
		}
	}
}

func TestSheetErrors(t *testing.T) {
	for _, g := range []api.Gray{shade("a"), shade("z"), plainGray(1024, 1024, 0)} {
		for _, level := range wrongNumbers(0, 256) {
			box, e := skew.Sheet(g, level, 500)
			failBox(t, box, e, api.ErrRange)
		}
		for _, part := range append(wrongNumbers(1, 1000), -500) {
			box, e := skew.Sheet(g, 256, part)
			failBox(t, box, e, api.ErrRange)
		}
		box, e := skew.Sheet(g, 256, 1)
		failBox(t, box, e, api.ErrNone)
		box, e = skew.Sheet(g, 256, 1000)
		failBox(t, box, e, api.ErrNone)
	}
}

func failBox(t *testing.T, box api.Box, e, want api.Errno) {
	t.Helper()
	if e != want || box != (api.Box{}) {
		t.Errorf("Sheet: got %v, error %d; want error %d alone", box, e, want)
	}
}

func TestMargins(t *testing.T) {
	for _, c := range []struct {
		page api.Bits
		want api.Margins
	}{
		{draw("#"), api.Margins{}},
		{draw("##", "##"), api.Margins{}},
		{draw(".....", "..##.", ".....", "....."), api.Margins{Left: 2, Top: 1, Right: 1, Bottom: 2}},
		{draw("....", "....", "....", "...#"), api.Margins{Left: 3, Top: 3}},
		{draw("#...", "....", "...."), api.Margins{Right: 3, Bottom: 2}},
		{draw("....#", ".#...", "....."), api.Margins{Left: 1, Bottom: 1}},
	} {
		m, e := skew.Margins(c.page)
		if e != api.OK || m != c.want {
			t.Error("Margins", picture(c.page), m, e, c.want)
		}
	}
	for _, size := range goodSizes() {
		w, h := size[0], size[1]
		b := plain(w, h, false)
		if m, e := skew.Margins(b); e != api.ErrNone || m != (api.Margins{}) {
			t.Error("Margins", size, m, e)
		}
		b.P[len(b.P)-1] = true
		if m, e := skew.Margins(b); e != api.OK || m != (api.Margins{Left: w - 1, Top: h - 1}) {
			t.Error("Margins", size, m, e)
		}
	}
}

func TestCentre(t *testing.T) {
	b := draw("......", "...##.", "....#.")
	// Its part with ink is 4 wide and 3 high.
	large := draw("##.#", "..#.", "#.##")
	for _, c := range []struct {
		page api.Bits
		w, h int
		want api.Bits
	}{
		{b, 2, 2, draw("##", ".#")},
		{b, 3, 3, draw("##.", ".#.", "...")},
		{b, 4, 5, draw("....", ".##.", "..#.", "....", "....")},
		{b, 5, 4, draw(".....", ".##..", "..#..", ".....")},
		{b, 6, 6, draw("......", "......", "..##..", "...#..", "......", "......")},
		{b, 1, 1, draw("#")},
		{b, 1, 2, draw("#", "#")},
		{b, 2, 1, draw(".#")},
		{b, 4, 1, draw("..#.")},
		{large, 4, 3, large},
		{large, 3, 3, draw("#.#", ".#.", ".##")},
		{large, 2, 3, draw("#.", ".#", ".#")},
		{large, 1, 3, draw(".", "#", "#")},
		{large, 4, 2, draw("..#.", "#.##")},
		{large, 4, 1, draw("..#.")},
		{large, 1, 1, draw("#")},
		{draw("#...#.#"), 2, 1, draw(".#")},
		{draw("#...#.#"), 5, 1, draw("...#.")},
	} {
		x, e := skew.Centre(c.page, c.w, c.h)
		wantBits(t, "Centre", x, e, c.want)
	}
}

// TestCentreOfMixed looks each pixel up in the part with ink.
func TestCentreOfMixed(t *testing.T) {
	eachMixed(func(b api.Bits) {
		box, e := page.Bounds(b)
		if e != api.OK {
			return
		}
		for _, size := range [][2]int{{1, 1}, {2, 3}, {5, 4}, {12, 12}, {13, 9}, {70, 30}, {71, 31}} {
			w, h := size[0], size[1]
			// The quotients are not negative here.
			left, top := (w-box.W+1000)/2-500, (h-box.H+1000)/2-500
			want := plain(w, h, false)
			for i := range want.P {
				x, y := i%w-left, i/w-top
				want.P[i] = x >= 0 && y >= 0 && x < box.W && y < box.H && b.P[(box.Y+y)*b.W+box.X+x]
			}
			x, e := skew.Centre(b, w, h)
			wantBits(t, "Centre", x, e, want)
		}
	})
}

func TestCentreErrors(t *testing.T) {
	for size, want := range map[[2]int]api.Errno{
		{0, 5}: api.ErrRange, {5, 0}: api.ErrRange, {-1, 5}: api.ErrRange, {5, -1}: api.ErrRange,
		{4001, 1}: api.ErrRange, {1, 4001}: api.ErrRange, {leastInt, leastInt}: api.ErrRange,
		{mostInt, mostInt}: api.ErrRange, {1 << 32, 1}: api.ErrRange, {3, 1<<32 + 1}: api.ErrRange,
		{1025, 1024}: api.ErrLarge, {4000, 263}: api.ErrLarge, {4000, 4000}: api.ErrLarge,
		{3, 3}: api.ErrNone, {4000, 262}: api.ErrNone,
	} {
		// A page without ink has the error of the size, too, if there is one.
		x, e := skew.Centre(draw("..", ".."), size[0], size[1])
		failBits(t, "Centre", x, e, want)
		if want != api.ErrNone {
			x, e = skew.Centre(draw("#"), size[0], size[1])
			failBits(t, "Centre", x, e, want)
		}
	}
}
