package clean_test

import (
	"math"
	"slices"
	"testing"

	"flatbed/api"
	"flatbed/clean"
)

func TestStretch(t *testing.T) {
	for _, c := range []struct {
		low, high  int
		from, want []byte
	}{
		{50, 150, []byte{50, 100, 150}, []byte{0, 128, 255}},
		{50, 150, []byte{0, 49, 51, 149, 151, 255}, []byte{0, 0, 3, 252, 255, 255}},
		{0, 255, []byte{0, 1, 127, 128, 254, 255}, []byte{0, 1, 127, 128, 254, 255}},
		{0, 1, []byte{0, 1, 2, 255}, []byte{0, 255, 255, 255}},
		{254, 255, []byte{0, 253, 254, 255}, []byte{0, 0, 0, 255}},
		// 255 / 2 is rounded up, 255 / 4 down, 3 * 255 / 4 up.
		{10, 12, []byte{11}, []byte{128}},
		{10, 14, []byte{11, 12, 13}, []byte{64, 128, 191}},
	} {
		g, e := clean.Stretch(gray(len(c.from), 1, c.from...), c.low, c.high)
		wantGray(t, "Stretch", g, e, gray(len(c.want), 1, c.want...))
	}
	all := plainGray(16, 16, 0)
	for i := range all.P {
		all.P[i] = byte(i)
	}
	for low := 0; low < 255; low += 17 {
		for high := low + 1; high < 256; high += 13 {
			want := plainGray(16, 16, 255)
			for v := range high {
				want.P[v] = byte(math.Floor(float64(max(v-low, 0)*255)/float64(high-low) + 0.5))
			}
			g, e := clean.Stretch(all, low, high)
			wantGray(t, "Stretch", g, e, want)
		}
	}
}

func TestStretchErrors(t *testing.T) {
	g := gray(2, 1, 0, 255)
	for _, n := range wrongNumbers(0, 255) {
		// These are out of order, too.
		x, e := clean.Stretch(g, n, 0)
		failGray(t, "Stretch", x, e, api.ErrRange)
		x, e = clean.Stretch(g, 255, n)
		failGray(t, "Stretch", x, e, api.ErrRange)
		x, e = clean.Stretch(g, n, n)
		failGray(t, "Stretch", x, e, api.ErrRange)
	}
	for _, c := range [][2]int{{0, 0}, {255, 255}, {1, 0}, {255, 0}, {255, 254}, {100, 100}, {101, 100}} {
		x, e := clean.Stretch(g, c[0], c[1])
		failGray(t, "Stretch", x, e, api.ErrOrder)
	}
}

// middleBySorting is P27 word by word.
func middleBySorting(g api.Gray, radius int) api.Gray {
	m := plainGray(g.W, g.H, 0)
	for i := range g.P {
		var l []byte
		eachAround(g.W, g.H, i%g.W, i/g.W, radius, func(at int) { l = append(l, g.P[at]) })
		slices.Sort(l)
		m.P[i] = l[(len(l)-1)/2]
	}
	return m
}

func TestMiddle(t *testing.T) {
	g, e := clean.Middle(gray(3, 1, 9, 1, 5), 1)
	wantGray(t, "Middle", g, e, gray(3, 1, 1, 5, 1))
	g, e = clean.Middle(gray(3, 1, 9, 1, 5), 0)
	wantGray(t, "Middle", g, e, gray(3, 1, 9, 1, 5))
	g, e = clean.Middle(gray(1, 4, 255, 0, 255, 254), 5)
	wantGray(t, "Middle", g, e, gray(1, 4, 254, 254, 254, 254))
	g, e = clean.Middle(gray(2, 2, 3, 1, 4, 2), 1)
	wantGray(t, "Middle", g, e, gray(2, 2, 2, 2, 2, 2))
	g, e = clean.Middle(gray(3, 3, 0, 0, 0, 0, 200, 0, 0, 0, 0), 1)
	wantGray(t, "Middle", g, e, plainGray(3, 3, 0))
	for _, size := range [][2]int{{1, 1}, {1, 4}, {4, 1}, {1, 20}, {20, 1}, {3, 3}, {7, 12}, {25, 18}} {
		for _, g := range []api.Gray{mixed(size[0], size[1]), plainGray(size[0], size[1], 255)} {
			for radius := range 6 {
				m, e := clean.Middle(g, radius)
				wantGray(t, "Middle", m, e, middleBySorting(g, radius))
			}
		}
	}
	for _, radius := range wrongNumbers(0, 5) {
		m, e := clean.Middle(g, radius)
		failGray(t, "Middle", m, e, api.ErrRange)
	}
}

// evenBySquares is P27 word by word.
func evenBySquares(g api.Gray, step int) api.Gray {
	m := plainGray(g.W, g.H, 0)
	for i := range g.P {
		light := 1
		for j, v := range g.P {
			if i%g.W/step == j%g.W/step && i/g.W/step == j/g.W/step {
				light = max(light, int(v))
			}
		}
		m.P[i] = byte(min(255, math.Floor(float64(int(g.P[i])*255)/float64(light)+0.5)))
	}
	return m
}

func TestEven(t *testing.T) {
	g, e := clean.Even(gray(4, 1, 100, 50, 200, 0), 2)
	wantGray(t, "Even", g, e, gray(4, 1, 255, 128, 255, 0))
	// Of a square that is black alone, the light is 1.
	g, e = clean.Even(gray(4, 1, 0, 0, 0, 1), 2)
	wantGray(t, "Even", g, e, gray(4, 1, 0, 0, 0, 255))
	g, e = clean.Even(gray(3, 1, 0, 7, 255), 1)
	wantGray(t, "Even", g, e, gray(3, 1, 0, 255, 255))
	// The squares at the right and below are smaller.
	g, e = clean.Even(gray(3, 3, 10, 20, 30, 5, 1, 60, 7, 14, 3), 2)
	wantGray(t, "Even", g, e, gray(3, 3, 128, 255, 128, 64, 13, 255, 128, 255, 255))
	g, e = clean.Even(gray(3, 1, 51, 34, 102), 4000)
	wantGray(t, "Even", g, e, gray(3, 1, 128, 85, 255))
	for _, size := range [][2]int{{1, 1}, {1, 7}, {7, 1}, {6, 4}, {13, 22}} {
		g := mixed(size[0], size[1])
		for i := range g.P {
			g.P[i] >>= i % 7
		}
		for _, step := range []int{1, 2, 3, 4, 5, 6, 7, 12, 13, 14, 22, 100, 4000} {
			m, e := clean.Even(g, step)
			wantGray(t, "Even", m, e, evenBySquares(g, step))
		}
	}
	for _, step := range wrongNumbers(1, 4000) {
		m, e := clean.Even(g, step)
		failGray(t, "Even", m, e, api.ErrRange)
	}
}
