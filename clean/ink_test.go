package clean_test

import (
	"testing"

	"flatbed/api"
	"flatbed/clean"
)

// inkBySquares makes ink where wanted says so, of how much ink is in the square around it.
func inkBySquares(b api.Bits, radius int, wanted func(n int) bool) api.Bits {
	c := plain(b.W, b.H, false)
	for i := range b.P {
		n := 0
		eachAround(b.W, b.H, i%b.W, i/b.W, radius, func(at int) {
			if b.P[at] {
				n++
			}
		})
		c.P[i] = wanted(n)
	}
	return c
}

func TestSpread(t *testing.T) {
	dot := draw(".....", "..#..", ".....")
	b, e := clean.Spread(dot, 1)
	wantBits(t, "Spread", b, e, draw(".###.", ".###.", ".###."))
	b, e = clean.Spread(dot, 0)
	wantBits(t, "Spread", b, e, dot)
	b, e = clean.Spread(dot, 50)
	wantBits(t, "Spread", b, e, plain(5, 3, true))
	b, e = clean.Spread(draw("#....", ".....", "....."), 1)
	wantBits(t, "Spread", b, e, draw("##...", "##...", "....."))
	b, e = clean.Spread(plain(5, 3, false), 50)
	wantBits(t, "Spread", b, e, plain(5, 3, false))
	b, e = clean.Spread(draw("#"), 50)
	wantBits(t, "Spread", b, e, draw("#"))
	eachMixed(func(b api.Bits) {
		for _, radius := range []int{0, 1, 2, 3, 9, 50} {
			c, e := clean.Spread(b, radius)
			wantBits(t, "Spread", c, e, inkBySquares(b, radius, func(n int) bool { return n > 0 }))
		}
	})
}

func TestShrink(t *testing.T) {
	b, e := clean.Shrink(draw(".###.", ".###.", ".###."), 1)
	wantBits(t, "Shrink", b, e, draw(".....", "..#..", "....."))
	b, e = clean.Shrink(draw(".###.", ".###.", ".###."), 0)
	wantBits(t, "Shrink", b, e, draw(".###.", ".###.", ".###."))
	b, e = clean.Shrink(draw(".###.", ".#.#.", ".###."), 1)
	wantBits(t, "Shrink", b, e, plain(5, 3, false))
	// The square has to be in the page as a whole.
	b, e = clean.Shrink(plain(5, 4, true), 1)
	wantBits(t, "Shrink", b, e, draw(".....", ".###.", ".###.", "....."))
	b, e = clean.Shrink(plain(5, 4, true), 2)
	wantBits(t, "Shrink", b, e, plain(5, 4, false))
	b, e = clean.Shrink(draw("#"), 1)
	wantBits(t, "Shrink", b, e, draw("."))
	b, e = clean.Shrink(draw("#"), 0)
	wantBits(t, "Shrink", b, e, draw("#"))
	one := plain(101, 101, false)
	one.P[50*101+50] = true
	b, e = clean.Shrink(plain(101, 101, true), 50)
	wantBits(t, "Shrink", b, e, one)
	b, e = clean.Shrink(plain(100, 101, true), 50)
	wantBits(t, "Shrink", b, e, plain(100, 101, false))
	eachMixed(func(b api.Bits) {
		for _, radius := range []int{0, 1, 2, 50} {
			whole := (2*radius + 1) * (2*radius + 1)
			c, e := clean.Shrink(b, radius)
			wantBits(t, "Shrink", c, e, inkBySquares(b, radius, func(n int) bool { return n == whole }))
		}
	})
}

func TestSpreadAndShrinkOutOfRange(t *testing.T) {
	for _, radius := range wrongNumbers(0, 50) {
		b, e := clean.Spread(draw("#"), radius)
		failBits(t, "Spread", b, e, api.ErrRange)
		b, e = clean.Shrink(draw("#"), radius)
		failBits(t, "Shrink", b, e, api.ErrRange)
	}
}

// TestSpreadAndShrink tests what follows from both.
func TestSpreadAndShrink(t *testing.T) {
	eachMixed(func(b api.Bits) {
		for radius := range 4 {
			spread, _ := clean.Spread(b, radius)
			closed, _ := clean.Shrink(spread, radius)
			shrunk, _ := clean.Shrink(b, radius)
			opened, _ := clean.Spread(shrunk, radius)
			for i, ink := range b.P {
				x, y := i%b.W, i/b.W
				away := min(x, y, b.W-1-x, b.H-1-y)
				if ink && away > radius && !closed.P[i] {
					t.Error("Shrink of Spread loses", x, y, radius, picture(b))
				}
				if opened.P[i] && !ink {
					t.Error("Spread of Shrink adds", x, y, radius, picture(b))
				}
			}
		}
	})
}

func TestMajority(t *testing.T) {
	for _, c := range []struct{ from, want api.Bits }{
		{draw("###", "#.#", "..."), draw(".#.", ".#.", "...")},
		{draw("##.", "##.", "#.."), draw("...", "##.", "...")},
		{draw("#"), draw(".")},
		{draw("##", "##"), draw("..", "..")},
		{draw("###", "###"), draw(".#.", ".#.")},
		{draw("###", "###", "###"), draw(".#.", "###", ".#.")},
		// The pixel itself counts, but does not decide: four of nine are too few, five without it are enough.
		{draw("#..", ".#.", "#.#"), draw("...", "...", "...")},
		{draw("#.#", "...", "###"), draw("...", ".#.", "...")},
		{draw(".....", ".###.", ".###.", ".###.", "....."), draw(".....", "..#..", ".###.", "..#..", ".....")},
	} {
		b, e := clean.Majority(c.from)
		wantBits(t, "Majority", b, e, c.want)
	}
	eachMixed(func(b api.Bits) {
		c, e := clean.Majority(b)
		wantBits(t, "Majority", c, e, inkBySquares(b, 1, func(n int) bool { return n >= 5 }))
	})
}

// strokesByStarts is P32: at each place at which a run begins, its length is counted.
func strokesByStarts(b api.Bits) int {
	counts := make([]int, 4001)
	ink := func(x, y int) bool { return x >= 0 && y >= 0 && x < b.W && y < b.H && b.P[y*b.W+x] }
	for i := range b.P {
		x, y := i%b.W, i/b.W
		for _, d := range [][2]int{{1, 0}, {0, 1}} {
			if !ink(x, y) || ink(x-d[0], y-d[1]) {
				continue
			}
			n := 1
			for ink(x+n*d[0], y+n*d[1]) {
				n++
			}
			counts[n]++
		}
	}
	best := 0
	for n := range counts {
		if counts[n] > counts[best] {
			best = n
		}
	}
	return best
}

func TestStrokes(t *testing.T) {
	for _, c := range []struct {
		b    api.Bits
		want int
	}{
		{draw("##.", "##.", "..."), 2},
		{draw("."), 0},
		{plain(20, 30, false), 0},
		{draw("#"), 1},
		{draw("###"), 1},
		{draw("#", "#", "#"), 1},
		// Of several the least: 2 and 3 occur twice each.
		{draw("##", "##", "##", ".."), 2},
		{draw("..#####", "..#####", "..#####"), 3},
		{draw("######", "######", "######"), 3},
		// A run of 2 at the end of a row is not one of 4 with that of the next row: three of 1, three of 2.
		{draw("..##", "##.."), 1},
		{draw("####", "####", "....", "####", "####"), 2},
		// Rows and columns count together: here rows alone would have 4, there columns alone.
		{draw("####.", "####.", ".....", "####.", ".####"), 2},
		{draw("##.##", "##.##", "##.##", "##.#.", "....#"), 2},
	} {
		if by := strokesByStarts(c.b); by != c.want {
			t.Error("strokesByStarts", by, c.want, picture(c.b))
		}
		n, e := clean.Strokes(c.b)
		wantInt(t, "Strokes", n, e, c.want)
	}
	eachMixed(func(b api.Bits) {
		n, e := clean.Strokes(b)
		wantInt(t, "Strokes", n, e, strokesByStarts(b))
	})
	for side := 1; side < 12; side++ {
		n, e := clean.Strokes(plain(side, side, true))
		wantInt(t, "Strokes", n, e, side)
	}
}
