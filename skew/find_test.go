package skew_test

import (
	"testing"

	"flatbed/api"
	"flatbed/skew"
)

// profileByPixels is P46 pixel by pixel.
func profileByPixels(b api.Bits, n int) []int {
	counts := make([]int, 2*b.H)
	eachLeaned(b, n, func(x, y int) {
		if at := b.H/2 + y; at >= 0 && at < 2*b.H {
			counts[at]++
		}
	})
	return counts
}

func squares(list []int) int {
	sum := 0
	for _, n := range list {
		sum += n * n
	}
	return sum
}

// slantScore is the sum of the squares of Columns of Slant.
func slantScore(b api.Bits, n int) int {
	counts := make([]int, b.W)
	for i, ink := range onPage(b, n, eachSlanted).P {
		if ink {
			counts[i%b.W]++
		}
	}
	return squares(counts)
}

// findByWords is the n that P47 wants of all from -most to most; score is for -n.
func findByWords(most int, score func(n int) int) int {
	best := -most
	for n := -most; n <= most; n++ {
		s, old := score(-n), score(-best)
		nearer := max(n, -n) < max(best, -best)
		opposite := n == -best && n > 0
		if s > old || s == old && (nearer || opposite) {
			best = n
		}
	}
	return best
}

func TestProfile(t *testing.T) {
	for _, c := range []struct {
		page  api.Bits
		n     int
		want  []int
		score int
	}{
		{draw("#"), 0, []int{1, 0}, 1},
		{draw("."), 256, []int{0, 0}, 0},
		{draw("#.#", "..#"), 0, []int{0, 2, 1, 0}, 5},
		{draw("#.#", "..#", "###"), 0, []int{0, 2, 1, 3, 0, 0}, 14},
		{draw("#", ".", ".", "#"), 256, []int{0, 0, 1, 0, 0, 1, 0, 0}, 2},
		{draw(".........", "#########", "........."), 256, []int{0, 3, 3, 3, 0, 0}, 27},
		// There is no element for the row above the page.
		{draw("#########"), 256, []int{3, 3}, 18},
		{draw("#########"), -256, []int{3, 3}, 18},
		{draw("########"), 256, []int{3, 3}, 18},
		{draw("########"), -256, []int{3, 2}, 13},
		{draw("#########", "#########"), 256, []int{3, 6, 6, 3}, 90},
		{draw("#########", "#########", "#########"), 256, []int{3, 6, 9, 6, 3, 0}, 171},
	} {
		p, e := skew.Profile(c.page, c.n)
		wantInts(t, "Profile", p, e, c.want)
		s, e := skew.Score(c.page, c.n)
		wantInt(t, "Score", s, e, c.score)
	}
}

// TestProfileBeyond has columns that go farther than there are elements.
func TestProfileBeyond(t *testing.T) {
	// The 3 columns in the middle stay; to each side, 4 columns go by 1, 4 by 2, and so on, as far as 64.
	p, e := skew.Profile(plain(513, 1, true), 256)
	wantInts(t, "Profile", p, e, []int{3, 4})
	p, e = skew.Profile(plain(513, 2, true), 256)
	wantInts(t, "Profile", p, e, []int{8, 7, 7, 8})
	p, e = skew.Profile(plain(513, 3, true), 256)
	wantInts(t, "Profile", p, e, []int{12, 11, 11, 11, 12, 12})
}

func TestProfileOfMixed(t *testing.T) {
	eachMixed(func(b api.Bits) {
		for _, n := range someLeans() {
			want := profileByPixels(b, n)
			p, e := skew.Profile(b, n)
			wantInts(t, "Profile", p, e, want)
			s, e := skew.Score(b, n)
			wantInt(t, "Score", s, e, squares(want))
		}
	})
}

func TestFind(t *testing.T) {
	// Columns that are 4 away from the middle one move from 128 on.
	down := draw("....#....", "........#")
	for _, c := range []struct {
		page       api.Bits
		most, want int
	}{
		{down, 256, 128}, {down, 128, 128}, {down, 127, 0}, {down, 0, 0},
		{draw("....#....", "#........"), 256, -128},
		{draw("....#....", "#........"), 128, -128},
		{draw("....#....", "#........"), 127, 0},
		{draw("........#", "....#...."), 256, -128},
		{draw("#........", "....#...."), 256, 128},
		{draw("#"), 256, 0},
		{draw("#", ".", "#"), 256, 0},
		{draw("#########"), 256, 0},
		// Both sides are equally good, and better than none: the positive one is taken.
		{draw("#...#", "..#..", "#...#"), 256, 256},
		{draw("#...#", "..#..", "#...#"), 255, 0},
		// They come together above the page, where they are counted, too.
		{draw("........#................", ".........................", "#........................"), 256, -214},
	} {
		n, e := skew.Find(c.page, c.most)
		wantInt(t, "Find"+picture(c.page), n, e, c.want)
	}
}

func TestFindSlant(t *testing.T) {
	column := func(rows ...string) api.Bits {
		return draw(append(rows, "...", "...", "...", "...")...)
	}
	for _, c := range []struct {
		page       api.Bits
		most, want int
	}{
		{column("..#", "...", "...", "...", ".#."), 256, 128},
		{column("..#", "...", "...", "...", ".#."), 128, 128},
		{column("..#", "...", "...", "...", ".#."), 127, 0},
		{column("..#", "...", "...", "...", ".#."), 0, 0},
		{column("#..", "...", "...", "...", ".#."), 256, -128},
		{draw("..#", "...", "...", "...", ".#.", "...", "...", "...", "#.."), 256, 128},
		{draw("...", "...", "...", "...", ".#.", "...", "...", "...", "..#"), 256, -128},
		{draw("#"), 256, 0},
		{draw("#.#"), 256, 0},
		// Both sides are equally good, and better than none: the positive one is taken.
		{draw(".#.#.", ".....", "..#..", ".....", ".#.#."), 256, 256},
		{draw(".#.#.", ".....", "..#..", ".....", ".#.#."), 255, 0},
		// Here they are not, as two pixels leave the page.
		{draw("#.#", "...", ".#.", "...", "#.#"), 256, 0},
		{leftBehind(), 256, 0},
	} {
		n, e := skew.FindSlant(c.page, c.most)
		wantInt(t, "FindSlant"+picture(c.page), n, e, c.want)
	}
}

// leftBehind has two pixels that would come together at the left of the page, where none is counted.
func leftBehind() api.Bits {
	b := plain(3, 25, false)
	b.P[2], b.P[8*3] = true, true
	return b
}

func TestFindOfMixed(t *testing.T) {
	eachMixed(func(b api.Bits) {
		if !hasInk(b) {
			return
		}
		leans, slants := map[int]int{}, map[int]int{}
		for n := -256; n <= 256; n++ {
			leans[n], slants[n] = squares(profileByPixels(b, n)), slantScore(b, n)
		}
		for _, most := range []int{0, 1, 20, 64, 200, 255, 256} {
			n, e := skew.Find(b, most)
			want := findByWords(most, func(n int) int { return leans[n] })
			wantInt(t, "Find"+picture(b), n, e, want)
			c, m, e := skew.Straight(b, most)
			wantBits(t, "Straight", c, e, onPage(b, -want, eachLeaned))
			wantInt(t, "Straight", m, e, want)
			n, e = skew.FindSlant(b, most)
			wantInt(t, "FindSlant"+picture(b), n, e, findByWords(most, func(n int) int { return slants[n] }))
		}
	})
}

func hasInk(b api.Bits) bool {
	for _, ink := range b.P {
		if ink {
			return true
		}
	}
	return false
}

// TestStraightOfRuled is what chapter 3 says at its end of pages of full and empty rows.
func TestStraightOfRuled(t *testing.T) {
	for _, full := range []func(y int) bool{
		func(y int) bool { return y == 8 },
		func(y int) bool { return y == 31 },
		func(y int) bool { return y >= 8 && y < 32 },
		func(y int) bool { return y >= 8 && y < 32 && y%2 == 0 },
		func(y int) bool { return y >= 8 && y < 32 && y*y%7 == 1 },
	} {
		for _, w := range []int{1, 2, 17, 128, 255, 256} {
			b := ruled(w, 40, full)
			for n := -64; n <= 64; n += 4 {
				x, _ := skew.Lean(b, n)
				for _, most := range []int{max(n, -n), 64, 256} {
					c, m, e := skew.Straight(x, most)
					wantBits(t, "Straight", c, e, b)
					if m*n < 0 || max(m, -m) > max(n, -n) {
						t.Error(w, n, m)
					}
				}
			}
		}
	}
}

func TestScoreOfRuled(t *testing.T) {
	for _, size := range [][2]int{{1, 1}, {30, 1}, {31, 12}, {200, 33}} {
		b := ruled(size[0], size[1], func(y int) bool { return y*y%5 < 3 })
		straight, _ := skew.Score(b, 0)
		for n := -256; n <= 256; n++ {
			if s, e := skew.Score(b, n); e != api.OK || s > straight {
				t.Error(size, n, s, straight, e)
			}
		}
	}
}

func TestFindErrors(t *testing.T) {
	fail := func(b api.Bits, most int, want api.Errno) {
		t.Helper()
		n, e := skew.Find(b, most)
		failInt(t, "Find", n, e, want)
		n, e = skew.FindSlant(b, most)
		failInt(t, "FindSlant", n, e, want)
		c, n, e := skew.Straight(b, most)
		failBits(t, "Straight", c, e, want)
		failInt(t, "Straight", n, e, want)
	}
	for _, most := range append(wrongNumbers(0, 256), -256, -2) {
		fail(draw("#"), most, api.ErrRange)
		fail(draw("."), most, api.ErrRange)
	}
	for _, size := range goodSizes() {
		fail(plain(size[0], size[1], false), 0, api.ErrNone)
		fail(plain(size[0], size[1], false), 256, api.ErrNone)
	}
}
