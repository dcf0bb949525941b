package skew_test

import (
	"testing"

	"flatbed/api"
	"flatbed/skew"
)

// differByPixels counts the places of a at which it differs from b moved by (dx, dy).
func differByPixels(a, b api.Bits, dx, dy int) int {
	n := 0
	for i, ink := range a.P {
		x, y := i%a.W-dx, i/a.W-dy
		inside := x >= 0 && y >= 0 && x < b.W && y < b.H
		if ink != (inside && b.P[y*b.W+x]) {
			n++
		}
	}
	return n
}

// alignByWords tries the places in the order in which P51 prefers them.
func alignByWords(a, b api.Bits, reach int) (int, int, int) {
	bestX, bestY, least := 0, 0, len(a.P)+1
	for far := 0; far <= 2*reach; far++ {
		for dy := -reach; dy <= reach; dy++ {
			for dx := -reach; dx <= reach; dx++ {
				if max(dx, -dx)+max(dy, -dy) != far {
					continue
				}
				if n := differByPixels(a, b, dx, dy); n < least {
					bestX, bestY, least = dx, dy, n
				}
			}
		}
	}
	return bestX, bestY, least
}

func wantAlign(t *testing.T, a, b api.Bits, reach, dx, dy, n int) {
	t.Helper()
	x, y, m, e := skew.Align(a, b, reach)
	if x != dx || y != dy || m != n || e != api.OK {
		t.Errorf("Align of %d by %d, reach %d: got %d, %d, %d, error %d; want %d, %d, %d", a.W, a.H, reach, x, y, m, e, dx, dy, n)
	}
}

func TestAlign(t *testing.T) {
	middle := draw(".....", ".....", "..#..", ".....", ".....")
	for _, c := range []struct {
		a, b             api.Bits
		reach, dx, dy, n int
	}{
		{middle, middle, 2, 0, 0, 0},
		{middle, draw(".....", "...#.", ".....", ".....", "....."), 2, -1, 1, 0},
		{middle, draw(".....", "...#.", ".....", ".....", "....."), 0, 0, 0, 2},
		{middle, draw(".....", ".....", ".....", "#....", "....."), 8, 2, -1, 0},
		{draw("##", "##"), draw("##", "##"), 8, 0, 0, 0},
		{draw("#"), draw("#"), 8, 0, 0, 0},
		{draw("."), draw("."), 8, 0, 0, 0},
		{draw("#"), draw("."), 8, 0, 0, 1},
		{draw("##.", "#.."), draw("...", "..."), 3, 0, 0, 3},
		// Ink that is moved out of the page does not count: up and left are equally good, up comes first.
		{draw("."), draw("#"), 8, 0, -1, 0},
		{draw("...", "..."), draw("#..", "..."), 1, 0, -1, 0},
		{draw("...", "...", "..."), draw("...", "...", ".#."), 1, 0, 1, 0},
		{draw("....", "....", "....", "...."), draw("....", "...#", "....", "...."), 1, 1, 0, 0},
		// The least number decides, however far it is.
		{draw("#.#.........#.#"), draw("#.#....#.#....."), 8, -7, 0, 2},
		// Equally many and equally far: the least dy, then the least dx.
		{middle, draw(".....", ".....", ".#.#.", ".....", "....."), 2, -1, 0, 1},
		{middle, draw(".....", "..#..", ".....", "..#..", "....."), 2, 0, -1, 1},
		{middle, draw(".....", "..#..", "...#.", ".....", "....."), 1, -1, 0, 1},
		{middle, draw(".....", ".....", ".#...", "..#..", "....."), 1, 0, -1, 1},
		{middle, draw(".....", "...#.", ".....", ".#...", "....."), 1, 1, -1, 1},
		{middle, draw(".....", ".....", ".....", ".#.#.", "....."), 1, -1, -1, 1},
		// Equally many: the nearer one, though its dy and dx are greater.
		{middle, draw(".....", ".#...", ".....", ".....", "....#"), 2, 1, 1, 0},
		{middle, draw("..#..", ".....", "...#.", ".....", "....."), 2, -1, 0, 1},
	} {
		wantAlign(t, c.a, c.b, c.reach, c.dx, c.dy, c.n)
		if dx, dy, n := alignByWords(c.a, c.b, c.reach); dx != c.dx || dy != c.dy || n != c.n {
			t.Error("alignByWords", picture(c.a), picture(c.b), dx, dy, n)
		}
	}
}

// movedBits is a page moved by (dx, dy).
func movedBits(b api.Bits, dx, dy int) api.Bits {
	c := plain(b.W, b.H, false)
	for i := range c.P {
		x, y := i%b.W-dx, i/b.W-dy
		c.P[i] = x >= 0 && y >= 0 && x < b.W && y < b.H && b.P[y*b.W+x]
	}
	return c
}

func TestAlignOfMixed(t *testing.T) {
	for _, size := range [][2]int{{1, 1}, {1, 20}, {20, 1}, {7, 5}, {63, 9}, {64, 9}, {65, 9}, {129, 12}} {
		for _, dark := range []byte{10, 128, 250} {
			a, other := mixedBits(size[0], size[1], dark), mixedBits(size[0], size[1], 255-dark)
			for _, b := range []api.Bits{other, movedBits(a, 3, -2), movedBits(other, -8, 8), movedBits(a, -9, 1)} {
				for _, reach := range []int{0, 1, 3, 8} {
					dx, dy, n := alignByWords(a, b, reach)
					wantAlign(t, a, b, reach, dx, dy, n)
				}
			}
		}
	}
}

// TestAlignBack has ink only where none leaves the page.
func TestAlignBack(t *testing.T) {
	a := mixedBits(90, 50, 100)
	for i := range a.P {
		x, y := i%90, i/90
		a.P[i] = a.P[i] && x >= 8 && x < 82 && y >= 8 && y < 42
	}
	for _, by := range [][2]int{{0, 0}, {8, 8}, {-8, -8}, {8, -8}, {-8, 8}, {1, 0}, {0, -1}, {5, 7}} {
		wantAlign(t, a, movedBits(a, by[0], by[1]), 8, -by[0], -by[1], 0)
	}
}

func TestAlignErrors(t *testing.T) {
	fail := func(a, b api.Bits, reach int, want api.Errno) {
		t.Helper()
		if x, y, n, e := skew.Align(a, b, reach); x != 0 || y != 0 || n != 0 || e != want {
			t.Errorf("Align: got %d, %d, %d, error %d; want error %d alone", x, y, n, e, want)
		}
	}
	for _, reach := range append(wrongNumbers(0, 8), -8) {
		fail(draw("#"), draw("."), reach, api.ErrRange)
		fail(draw("#"), draw(".", "."), reach, api.ErrConflict)
	}
	fail(draw("##"), draw("#", "#"), 1, api.ErrConflict)
	fail(draw("##"), draw("###"), 8, api.ErrConflict)
	fail(draw("##"), draw("##", "##"), 0, api.ErrConflict)
	fail(plain(1024, 1024, true), plain(1024, 1023, true), 0, api.ErrConflict)
}
