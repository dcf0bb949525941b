package skew_test

import (
	"testing"

	"flatbed/api"
	"flatbed/skew"
)

// farByWords is how far P45 moves what is away pixels from the middle one.
func farByWords(n, away int) int {
	magnitude := max(n*away, -n*away)
	far := magnitude / 1024
	if magnitude%1024 >= 512 {
		far++
	}
	if n*away < 0 {
		return -far
	}
	return far
}

// eachLeaned calls visit for all ink of a page with the place to which Lean moves it, also outside of the page.
func eachLeaned(b api.Bits, n int, visit func(x, y int)) {
	for i, ink := range b.P {
		if x, y := i%b.W, i/b.W; ink {
			visit(x, y+farByWords(n, x-(b.W-1)/2))
		}
	}
}

func eachSlanted(b api.Bits, n int, visit func(x, y int)) {
	for i, ink := range b.P {
		if x, y := i%b.W, i/b.W; ink {
			visit(x+farByWords(n, (b.H-1)/2-y), y)
		}
	}
}

// onPage is a page of the size of b with the ink that each tells, as far as it is in the page.
func onPage(b api.Bits, n int, each func(api.Bits, int, func(x, y int))) api.Bits {
	c := plain(b.W, b.H, false)
	each(b, n, func(x, y int) {
		if x >= 0 && x < b.W && y >= 0 && y < b.H {
			c.P[y*b.W+x] = true
		}
	})
	return c
}

func TestLean(t *testing.T) {
	even, odd := draw("........", "########", "........"), draw(".........", "#########", ".........")
	for _, c := range []struct {
		page api.Bits
		n    int
		want api.Bits
	}{
		{odd, 0, odd},
		{odd, 256, draw("###......", "...###...", "......###")},
		{odd, -256, draw("......###", "...###...", "###......")},
		{odd, 255, draw("##.......", "..#####..", ".......##")},
		{odd, -255, draw(".......##", "..#####..", "##.......")},
		{odd, 128, draw("#........", ".#######.", "........#")},
		{odd, 127, odd},
		{odd, -127, odd},
		// The middle column is 3 of 0 to 7, so the left side has one column less.
		{even, 256, draw("##......", "..###...", ".....###")},
		{even, -256, draw(".....###", "..###...", "##......")},
		{even, 128, draw("........", "#######.", ".......#")},
		{draw("#########"), 256, draw("...###...")},
		{draw("##", "#."), 256, draw("##", "#.")},
		{draw("#"), 256, draw("#")},
		{draw(".", "#", "."), -256, draw(".", "#", ".")},
	} {
		x, e := skew.Lean(c.page, c.n)
		wantBits(t, "Lean", x, e, c.want)
		if by := onPage(c.page, c.n, eachLeaned); !sameBits(by, c.want) {
			t.Error("eachLeaned", picture(c.page), c.n, picture(by))
		}
	}
}

func TestSlant(t *testing.T) {
	odd := draw(".#.", ".#.", ".#.", ".#.", ".#.", ".#.", ".#.", ".#.", ".#.")
	even := draw(".#.", ".#.", ".#.", ".#.", ".#.", ".#.", ".#.", ".#.")
	for _, c := range []struct {
		page api.Bits
		n    int
		want api.Bits
	}{
		{odd, 0, odd},
		{odd, 256, draw("..#", "..#", "..#", ".#.", ".#.", ".#.", "#..", "#..", "#..")},
		{odd, -256, draw("#..", "#..", "#..", ".#.", ".#.", ".#.", "..#", "..#", "..#")},
		{odd, 255, draw("..#", "..#", ".#.", ".#.", ".#.", ".#.", ".#.", "#..", "#..")},
		{odd, 128, draw("..#", ".#.", ".#.", ".#.", ".#.", ".#.", ".#.", ".#.", "#..")},
		{odd, 127, odd},
		{odd, -127, odd},
		// The middle row is 3 of 0 to 7, so the upper part has one row less.
		{even, 256, draw("..#", "..#", ".#.", ".#.", ".#.", "#..", "#..", "#..")},
		{even, -256, draw("#..", "#..", ".#.", ".#.", ".#.", "..#", "..#", "..#")},
		{even, 128, draw(".#.", ".#.", ".#.", ".#.", ".#.", ".#.", ".#.", "#..")},
		{draw("#", "#", "#", "#", "#"), 256, draw(".", "#", "#", "#", ".")},
		{draw("#"), -256, draw("#")},
		{draw("#.#"), 256, draw("#.#")},
	} {
		x, e := skew.Slant(c.page, c.n)
		wantBits(t, "Slant", x, e, c.want)
		if by := onPage(c.page, c.n, eachSlanted); !sameBits(by, c.want) {
			t.Error("eachSlanted", picture(c.page), c.n, picture(by))
		}
	}
}

func TestLeanAndSlantOfMixed(t *testing.T) {
	eachMixed(func(b api.Bits) {
		for _, n := range someLeans() {
			x, e := skew.Lean(b, n)
			wantBits(t, "Lean", x, e, onPage(b, n, eachLeaned))
			x, e = skew.Slant(b, n)
			wantBits(t, "Slant", x, e, onPage(b, n, eachSlanted))
		}
		x, e := skew.Lean(b, 0)
		wantBits(t, "Lean by 0", x, e, b)
		x, e = skew.Slant(b, 0)
		wantBits(t, "Slant by 0", x, e, b)
	})
}

// TestLeanBack has ink only where none leaves the page.
func TestLeanBack(t *testing.T) {
	for _, size := range [][2]int{{1, 40}, {2, 41}, {63, 50}, {64, 51}} {
		b := mixedBits(size[0], size[1], 100)
		for i := range b.P {
			y := i / b.W
			b.P[i] = b.P[i] && y >= 8 && y < b.H-8
		}
		for n := -api.MaxLean; n <= api.MaxLean; n++ {
			x, e := skew.Lean(b, n)
			y, f := skew.Lean(x, -n)
			if e != api.OK {
				t.Fatal(n, e)
			}
			wantBits(t, "Lean back", y, f, b)
		}
	}
}

// TestLeanBackWithLoss has back just the ink that has not left the page.
func TestLeanBackWithLoss(t *testing.T) {
	b := plain(40, 9, true)
	for _, n := range []int{256, -256, 100} {
		x, _ := skew.Lean(b, n)
		y, e := skew.Lean(x, -n)
		want := plain(40, 9, false)
		for i := range want.P {
			there := i/40 + farByWords(n, i%40-19)
			want.P[i] = there >= 0 && there < 9
		}
		wantBits(t, "Lean back", y, e, want)
	}
}

func TestLeanErrors(t *testing.T) {
	for _, n := range wrongNumbers(-256, 256) {
		for _, b := range []api.Bits{draw("#"), draw("..", ".."), plain(1024, 1024, true)} {
			x, e := skew.Lean(b, n)
			failBits(t, "Lean", x, e, api.ErrRange)
			x, e = skew.Slant(b, n)
			failBits(t, "Slant", x, e, api.ErrRange)
			l, e := skew.Profile(b, n)
			failInts(t, "Profile", l, e, api.ErrRange)
			s, e := skew.Score(b, n)
			failInt(t, "Score", s, e, api.ErrRange)
		}
	}
}
