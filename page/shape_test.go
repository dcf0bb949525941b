package page_test

import (
	"testing"

	"flatbed/api"
	"flatbed/page"
)

func TestCut(t *testing.T) {
	b := draw("##.", ".#.")
	g := gray(3, 2, 1, 2, 3, 4, 5, 6)
	for _, c := range []struct {
		box  api.Box
		bits api.Bits
		gray api.Gray
	}{
		{api.Box{W: 3, H: 2}, b, g},
		{api.Box{X: 1, W: 2, H: 2}, draw("#.", "#."), gray(2, 2, 2, 3, 5, 6)},
		{api.Box{Y: 1, W: 2, H: 1}, draw(".#"), gray(2, 1, 4, 5)},
		{api.Box{X: 2, Y: 1, W: 1, H: 1}, draw("."), gray(1, 1, 6)},
		{api.Box{W: 1, H: 2}, draw("#", "."), gray(1, 2, 1, 4)},
	} {
		x, e := page.Cut(b, c.box)
		wantBits(t, "Cut", x, e, c.bits)
		y, e := page.CutGray(g, c.box)
		wantGray(t, "CutGray", y, e, c.gray)
	}
	for _, box := range boxesOutside() {
		x, e := page.Cut(b, box)
		failBits(t, "Cut", x, e, api.ErrPlace)
		y, e := page.CutGray(g, box)
		failGray(t, "CutGray", y, e, api.ErrPlace)
	}
}

func TestTurn(t *testing.T) {
	b := draw("##.", "...")
	bits := []api.Bits{b, draw(".#", ".#", ".."), draw("...", ".##"), draw("..", "#.", "#.")}
	g := gray(3, 2, 1, 2, 3, 4, 5, 6)
	grays := []api.Gray{g, gray(2, 3, 4, 1, 5, 2, 6, 3), gray(3, 2, 6, 5, 4, 3, 2, 1), gray(2, 3, 3, 6, 2, 5, 1, 4)}
	for quarters, k := range map[int]int{0: 0, 1: 1, 2: 2, 3: 3, 4: 0, 5: 1, 10: 2, 4003: 3,
		-1: 3, -2: 2, -3: 1, -4: 0, -5: 3, mostInt: 3, mostInt - 1: 2, leastInt: 0, leastInt + 1: 1} {
		x, e := page.Turn(b, quarters)
		wantBits(t, "Turn", x, e, bits[k])
		y, e := page.TurnGray(g, quarters)
		wantGray(t, "TurnGray", y, e, grays[k])
	}
}

func TestTurnFourTimes(t *testing.T) {
	for _, size := range [][2]int{{1, 1}, {1, 7}, {7, 1}, {9, 5}, {4000, 2}} {
		b, g := mixedBits(size[0], size[1]), mixed(size[0], size[1])
		x, y := b, g
		for range 4 {
			x, _ = page.Turn(x, 1)
			y, _ = page.TurnGray(y, 1)
		}
		wantBits(t, "four quarters", x, api.OK, b)
		wantGray(t, "four quarters", y, api.OK, g)
		x, e := page.Turn(b, 4)
		wantBits(t, "quarters of 4", x, e, b)
	}
}

func TestMirrorAndInvert(t *testing.T) {
	b := draw("##..", "#.#.", "...#")
	x, e := page.Mirror(b)
	wantBits(t, "Mirror", x, e, draw("..##", ".#.#", "#..."))
	x, e = page.Mirror(x)
	wantBits(t, "Mirror twice", x, e, b)
	x, e = page.Invert(b)
	wantBits(t, "Invert", x, e, draw("..##", ".#.#", "###."))
	x, e = page.Invert(x)
	wantBits(t, "Invert twice", x, e, b)
	x, e = page.Mirror(draw("#"))
	wantBits(t, "Mirror", x, e, draw("#"))
	x, e = page.Mirror(draw("#..", "##."))
	wantBits(t, "Mirror", x, e, draw("..#", ".##"))
}

func TestGrow(t *testing.T) {
	b := draw("#.", ".#", "..")
	x, e := page.Grow(b, 1)
	wantBits(t, "Grow", x, e, b)
	x, e = page.Grow(b, 2)
	wantBits(t, "Grow", x, e, draw("##..", "##..", "..##", "..##", "....", "...."))
	x, e = page.Grow(draw(".#"), 3)
	wantBits(t, "Grow", x, e, draw("...###", "...###", "...###"))
	x, e = page.Grow(draw("."), 16)
	wantBits(t, "Grow", x, e, plain(16, 16))
	x, e = page.Grow(plain(250, 16), 16)
	wantBits(t, "Grow", x, e, plain(4000, 256))
	x, e = page.Grow(plain(64, 64), 16)
	wantBits(t, "Grow", x, e, plain(1024, 1024))
	for _, times := range []int{0, -1, 17, 1 << 32, mostInt, leastInt} {
		x, e = page.Grow(b, times)
		failBits(t, "Grow", x, e, api.ErrRange)
		x, e = page.Grow(plain(1024, 1024), times)
		failBits(t, "Grow", x, e, api.ErrRange)
	}
	x, e = page.Grow(plain(251, 1), 16)
	failBits(t, "Grow", x, e, api.ErrRange)
	x, e = page.Grow(plain(1, 2001), 2)
	failBits(t, "Grow", x, e, api.ErrRange)
	x, e = page.Grow(plain(1000, 132), 3)
	failBits(t, "Grow", x, e, api.ErrLarge)
	x, e = page.Grow(plain(65, 64), 16)
	failBits(t, "Grow", x, e, api.ErrLarge)
}

func TestHalve(t *testing.T) {
	for _, c := range []struct{ page, want api.Gray }{
		{gray(1, 1, 7), gray(1, 1, 7)},
		{gray(2, 1, 0, 1), gray(1, 1, 1)},
		{gray(1, 2, 2, 5), gray(1, 1, 4)},
		{gray(2, 2, 0, 0, 0, 1), gray(1, 1, 0)},
		{gray(2, 2, 0, 0, 1, 1), gray(1, 1, 1)},
		{gray(2, 2, 255, 255, 255, 255), gray(1, 1, 255)},
		{gray(2, 2, 255, 255, 255, 253), gray(1, 1, 255)},
		{gray(3, 2, 0, 10, 200, 20, 31, 255), gray(2, 1, 15, 228)},
		{gray(3, 3, 1, 2, 3, 4, 5, 6, 7, 8, 9), gray(2, 2, 3, 5, 8, 9)},
		{gray(4, 2, 0, 8, 100, 100, 0, 8, 104, 104), gray(2, 1, 4, 102)},
		{gray(2, 4, 0, 8, 0, 8, 100, 100, 104, 104), gray(1, 2, 4, 102)},
		{plainGray(4000, 1), plainGray(2000, 1)},
		{plainGray(1, 3999), plainGray(1, 2000)},
		{plainGray(1024, 1024), plainGray(512, 512)},
	} {
		x, e := page.Halve(c.page)
		wantGray(t, "Halve", x, e, c.want)
	}
}

func TestPaste(t *testing.T) {
	b := draw("#...", "....", "...#")
	c := draw("##", "#.")
	for _, k := range []struct {
		x, y int
		want api.Bits
	}{
		{0, 0, draw("##..", "#...", "...#")},
		{1, 1, draw("#...", ".##.", ".#.#")},
		{2, 1, draw("#...", "..##", "..##")},
		{2, 2, draw("#...", "....", "..##")},
		{3, 0, draw("#..#", "...#", "...#")},
		{3, 2, draw("#...", "....", "...#")},
		{-1, 0, draw("#...", "....", "...#")},
		{-1, 1, draw("#...", "#...", "...#")},
		{2, -1, draw("#.#.", "....", "...#")},
		{-1, -1, draw("#...", "....", "...#")},
		{4, 0, b}, {0, 3, b}, {-2, 0, b}, {0, -2, b}, {4, 3, b},
		{mostInt, 0, b}, {0, mostInt, b}, {leastInt, 0, b}, {0, leastInt, b},
		{mostInt, mostInt, b}, {leastInt, leastInt, b}, {mostInt - 1, 1, b}, {leastInt + 1, 1, b},
		{1 << 32, 0, b}, {0, 1 << 32, b}, {-1 << 32, 0, b}, {0, -1 << 32, b},
	} {
		x, e := page.Paste(b, c, k.x, k.y)
		wantBits(t, "Paste", x, e, k.want)
	}
	x, e := page.Paste(c, b, -2, -1)
	wantBits(t, "Paste of a larger page", x, e, draw("##", "##"))
	x, e = page.Paste(draw("##", "##"), plain(2, 2), 0, 0)
	wantBits(t, "Paste without ink", x, e, draw("##", "##"))
	x, e = page.Paste(draw("..."), draw("#####"), -1, 0)
	wantBits(t, "Paste of a wider page", x, e, draw("###"))
}

func TestPut(t *testing.T) {
	for x := range 4 {
		for y := range 3 {
			b, c := mixedBits(7, 5), mixedBits(4, 3)
			old := b.P
			b.P = append([]bool(nil), old...)
			page.Put(b, c, x, y)
			for i, ink := range b.P {
				want := old[i]
				if px, py := i%7-x, i/7-y; px >= 0 && px < 4 && py >= 0 && py < 3 {
					want = c.P[py*4+px]
				}
				if ink != want {
					t.Error(x, y, i)
				}
			}
		}
	}
}
