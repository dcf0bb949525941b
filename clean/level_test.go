package clean_test

import (
	"slices"
	"testing"

	"flatbed/api"
	"flatbed/clean"
	"flatbed/page"
)

// levelByValues is P25 word by word, with as many times as are told.
func levelByValues(g api.Gray, times int) int {
	t := (int(slices.Min(g.P)) + int(slices.Max(g.P)) + 1) / 2
	for range times {
		sums, counts := [2]int{}, [2]int{}
		for _, v := range g.P {
			side := 0
			if int(v) >= t {
				side = 1
			}
			sums[side] += int(v)
			counts[side]++
		}
		if counts[0] == 0 || counts[1] == 0 {
			return t
		}
		next := (sums[0]/counts[0] + sums[1]/counts[1] + 1) / 2
		if next == t {
			return t
		}
		t = next
	}
	return t
}

func TestLevel(t *testing.T) {
	for _, c := range []struct {
		p    []byte
		want int
	}{
		{[]byte{10, 20, 200, 210}, 110},
		{[]byte{0}, 0},
		{[]byte{255}, 255},
		{[]byte{7, 7, 7}, 7},
		{[]byte{0, 255}, 128},
		{[]byte{254, 255}, 255},
		{[]byte{0, 1}, 1},
		{[]byte{3, 4}, 4},
		{[]byte{3, 5}, 4},
		// 50; 10 and 100 make 55, which parts them likewise.
		{[]byte{0, 0, 40, 100}, 57},
		// 50, 56, 56: the mean of 0, 25, 25 is 16 (rounded down), that of 95, 95, 100 is 96.
		{[]byte{0, 25, 25, 95, 95, 100}, 56},
	} {
		g := gray(len(c.p), 1, c.p...)
		n, e := clean.Level(g)
		wantInt(t, "Level", n, e, c.want)
		if by := levelByValues(g, 100); by != c.want {
			t.Error("levelByValues", c.p, by, c.want)
		}
	}
	for _, size := range [][2]int{{1, 2}, {2, 1}, {1, 3}, {3, 1}, {5, 4}, {40, 31}} {
		g := mixed(size[0], size[1])
		for shift := range 8 {
			for i := range g.P {
				g.P[i] >>= (i + shift) % 3
			}
			n, e := clean.Level(g)
			wantInt(t, "Level", n, e, levelByValues(g, 100))
		}
	}
}

// slowPage is a page whose level sinks by 1 each time, from 128 on, more than 100 times.
func slowPage() api.Gray {
	g := api.Gray{W: 256, H: 256}
	add := func(v byte, count int) { g.P = append(g.P, slices.Repeat([]byte{v}, count)...) }
	add(255, 1)
	add(248, 41)
	add(247, 9)
	for i, count := range []int{
		1, 1, 1, 1, 1, 1, 1, 1, 1, 1, 1, 1, 2, 1, 1, 1, 2, 1, 1, 2, 1, 2, 1, 2, 2, 2, 1, 2, 2, 2, 2, 2, 2, 3, 2, 2, 3, 3, 2,
		3, 3, 3, 3, 3, 4, 2, 3, 4, 4, 4, 4, 4, 5, 5, 5, 5, 5, 6, 6, 7, 6, 7, 7, 8, 8, 9, 9, 10, 10, 10, 12, 12, 13, 13, 15,
		15, 17, 18, 19, 20, 22, 23, 26, 27, 30, 32, 36, 38, 42, 46, 51, 56, 61, 69, 77, 86, 96, 110, 124, 142, 163, 189, 220,
		212, 189, 326, 391, 474, 584, 730, 929, 1090, 831, 1769, 2432, 1520, 3909, 2586, 6480, 4603, 5210,
	} {
		add(byte(127-i), count)
	}
	add(1, 4465)
	add(0, 24602)
	return g
}

func TestLevelStopsAfterTimes(t *testing.T) {
	g := slowPage()
	for times, want := range map[int]int{99: 29, 100: 28, 101: 27} {
		if n := levelByValues(g, times); n != want {
			t.Fatal("the page is not as slow as it should be", times, n)
		}
	}
	n, e := clean.Level(g)
	wantInt(t, "Level", n, e, 28)
	b, e := clean.Auto(g)
	want, _ := page.ToBits(g, 28)
	wantBits(t, "Auto", b, e, want)
}

func TestAuto(t *testing.T) {
	for _, c := range []struct {
		g    api.Gray
		want api.Bits
	}{
		{gray(4, 1, 10, 20, 200, 210), draw("##..")},
		{gray(2, 2, 0, 255, 255, 0), draw("#.", ".#")},
		// The level is 4: what is at it is no ink.
		{gray(2, 1, 3, 4), draw("#.")},
		// Of one value alone none is less than the level, also of black alone.
		{gray(2, 1, 0, 0), draw("..")},
		{gray(2, 1, 255, 255), draw("..")},
		{gray(1, 1, 9), draw(".")},
		{gray(4, 1, 0, 0, 40, 100), draw("###.")},
	} {
		b, e := clean.Auto(c.g)
		wantBits(t, "Auto", b, e, c.want)
	}
	g := mixed(37, 23)
	want, _ := page.ToBits(g, levelByValues(g, 100))
	b, e := clean.Auto(g)
	wantBits(t, "Auto", b, e, want)
}

// localBySquares is P26 word by word.
func localBySquares(g api.Gray, radius, part int) api.Bits {
	b := plain(g.W, g.H, false)
	for i := range g.P {
		n, s := 0, 0
		eachAround(g.W, g.H, i%g.W, i/g.W, radius, func(at int) {
			n++
			s += int(g.P[at])
		})
		b.P[i] = int(g.P[i])*n*1000 < s*(1000-part)
	}
	return b
}

func TestLocal(t *testing.T) {
	g := gray(3, 1, 100, 50, 100)
	b, e := clean.Local(g, 1, 100)
	wantBits(t, "Local", b, e, draw(".#."))
	// With 50 * 3 * 1000 on one side, and 250 * 600 on the other, both are equal: no ink.
	b, e = clean.Local(g, 1, 400)
	wantBits(t, "Local", b, e, draw("..."))
	b, e = clean.Local(g, 1, 399)
	wantBits(t, "Local", b, e, draw(".#."))
	// At the ends of the row only two pixels are looked at.
	b, e = clean.Local(gray(3, 1, 10, 20, 30), 1, 0)
	wantBits(t, "Local", b, e, draw("#.."))
	b, e = clean.Local(gray(2, 1, 0, 255), 100, 1000)
	wantBits(t, "Local", b, e, draw(".."))
	b, e = clean.Local(gray(2, 1, 0, 255), 100, 999)
	wantBits(t, "Local", b, e, draw("#."))
	b, e = clean.Local(gray(1, 1, 0), 1, 0)
	wantBits(t, "Local", b, e, draw("."))
	for _, size := range [][2]int{{1, 1}, {1, 8}, {8, 1}, {5, 7}, {30, 21}} {
		g = mixed(size[0], size[1])
		for _, radius := range []int{1, 2, 3, 7, 29, 100} {
			for _, part := range []int{0, 1, 100, 500, 999, 1000} {
				b, e = clean.Local(g, radius, part)
				wantBits(t, "Local", b, e, localBySquares(g, radius, part))
			}
		}
	}
}

func TestLocalOutOfRange(t *testing.T) {
	g := gray(2, 1, 0, 255)
	for _, radius := range wrongNumbers(1, 100) {
		b, e := clean.Local(g, radius, 100)
		failBits(t, "Local", b, e, api.ErrRange)
	}
	for _, part := range wrongNumbers(0, 1000) {
		b, e := clean.Local(g, 1, part)
		failBits(t, "Local", b, e, api.ErrRange)
	}
	b, e := clean.Local(g, 0, 1001)
	failBits(t, "Local", b, e, api.ErrRange)
}
