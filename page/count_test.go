package page_test

import (
	"testing"

	"flatbed/api"
	"flatbed/page"
)

func TestToBits(t *testing.T) {
	g := gray(3, 2, 0, 10, 20, 21, 254, 255)
	for level, want := range map[int]api.Bits{
		0:   draw("...", "..."),
		1:   draw("#..", "..."),
		20:  draw("##.", "..."),
		21:  draw("###", "..."),
		22:  draw("###", "#.."),
		254: draw("###", "#.."),
		255: draw("###", "##."),
		256: draw("###", "###"),
	} {
		x, e := page.ToBits(g, level)
		wantBits(t, "ToBits", x, e, want)
	}
	for _, level := range []int{-1, 257, 1 << 32, 1<<32 + 20, mostInt, leastInt} {
		x, e := page.ToBits(g, level)
		failBits(t, "ToBits", x, e, api.ErrRange)
	}
}

func TestToGray(t *testing.T) {
	x, e := page.ToGray(draw("#..", ".##"))
	wantGray(t, "ToGray", x, e, gray(3, 2, 0, 255, 255, 255, 0, 0))
	b := mixedBits(13, 7)
	x, _ = page.ToGray(b)
	for _, level := range []int{1, 128, 255} {
		y, e := page.ToBits(x, level)
		wantBits(t, "ToBits of ToGray", y, e, b)
	}
}

func TestHistogram(t *testing.T) {
	want := make([]int, 256)
	want[0], want[7], want[255] = 2, 1, 3
	x, e := page.Histogram(gray(3, 2, 255, 0, 7, 0, 255, 255))
	wantInts(t, "Histogram", x, e, want)
	want = make([]int, 256)
	want[0] = api.MaxPixels
	x, e = page.Histogram(plainGray(1024, 1024))
	wantInts(t, "Histogram", x, e, want)
}

func TestInk(t *testing.T) {
	b := draw("##.", ".##")
	for box, want := range map[api.Box]int{
		{W: 3, H: 2}:             4,
		{W: 1, H: 1}:             1,
		{X: 2, W: 1, H: 1}:       0,
		{X: 2, Y: 1, W: 1, H: 1}: 1,
		{X: 1, W: 1, H: 2}:       2,
		{Y: 1, W: 3, H: 1}:       2,
		{X: 1, W: 2, H: 2}:       3,
		{W: 2, H: 2}:             3,
	} {
		if n, e := page.Ink(b, box); n != want || e != api.OK {
			t.Error(box, n, e)
		}
	}
	for _, box := range boxesOutside() {
		n, e := page.Ink(b, box)
		failInt(t, "Ink", n, e, api.ErrPlace)
	}
}

func TestRowsAndColumns(t *testing.T) {
	b := draw("##..", "#...", "###.")
	x, e := page.Rows(b)
	wantInts(t, "Rows", x, e, []int{2, 1, 3})
	x, e = page.Columns(b)
	wantInts(t, "Columns", x, e, []int{3, 2, 1, 0})
	x, e = page.Rows(plain(1, 4000))
	wantInts(t, "Rows", x, e, make([]int, 4000))
	x, e = page.Columns(plain(4000, 1))
	wantInts(t, "Columns", x, e, make([]int, 4000))
	b = mixedBits(61, 37)
	all, _ := page.Ink(b, api.Box{W: 61, H: 37})
	for name, count := range map[string]func(api.Bits) ([]int, api.Errno){"Rows": page.Rows, "Columns": page.Columns} {
		sum := 0
		l, _ := count(b)
		for _, n := range l {
			sum += n
		}
		if sum != all || all == 0 {
			t.Error(name, sum, all)
		}
	}
}

func TestBounds(t *testing.T) {
	for _, c := range []struct {
		page api.Bits
		want api.Box
	}{
		{draw("#"), api.Box{W: 1, H: 1}},
		{draw("....", "..#.", "...."), api.Box{X: 2, Y: 1, W: 1, H: 1}},
		{draw("....", ".#..", "...#"), api.Box{X: 1, Y: 1, W: 3, H: 2}},
		{draw("...#", "....", ".#.."), api.Box{X: 1, W: 3, H: 3}},
		{draw("#...", "....", "...#"), api.Box{W: 4, H: 3}},
		{draw("##.", "...", "..."), api.Box{W: 2, H: 1}},
	} {
		if box, e := page.Bounds(c.page); box != c.want || e != api.OK {
			t.Error(c.page, box, e)
		}
	}
	for _, b := range []api.Bits{draw("."), draw("..", ".."), plain(1024, 1024)} {
		if box, e := page.Bounds(b); box != (api.Box{}) || e != api.ErrNone {
			t.Error(box, e)
		}
	}
}

func TestDiffer(t *testing.T) {
	a := draw("##.", "...")
	for _, c := range []struct {
		other api.Bits
		want  int
	}{{a, 0}, {draw(".##", "..."), 2}, {draw("..#", "###"), 6}, {draw("##.", "..#"), 1}, {plain(3, 2), 2}} {
		if n, e := page.Differ(a, c.other); n != c.want || e != api.OK {
			t.Error(c.other, n, e)
		}
		if n, e := page.Differ(c.other, a); n != c.want || e != api.OK {
			t.Error(c.other, n, e)
		}
	}
	for _, other := range []api.Bits{draw("##", "..", ".."), draw("##."), draw("######"), draw("##.", "...", "...")} {
		n, e := page.Differ(a, other)
		failInt(t, "Differ", n, e, api.ErrConflict)
	}
}

// meansBySquares is P6 word by word.
func meansBySquares(g api.Gray, radius int) []int {
	var l []int
	for y := range g.H {
		for x := range g.W {
			sum, n := 0, 0
			for v := max(0, y-radius); v <= min(g.H-1, y+radius); v++ {
				for u := max(0, x-radius); u <= min(g.W-1, x+radius); u++ {
					sum += int(g.P[v*g.W+u])
					n++
				}
			}
			mean := sum / n
			if 2*(sum%n) >= n {
				mean++
			}
			l = append(l, mean)
		}
	}
	return l
}

func TestMeans(t *testing.T) {
	g := gray(3, 2, 0, 10, 200, 20, 31, 255)
	x, e := page.Means(g, 0)
	wantInts(t, "Means", x, e, []int{0, 10, 200, 20, 31, 255})
	x, e = page.Means(g, 1)
	wantInts(t, "Means", x, e, []int{15, 86, 124, 15, 86, 124})
	x, e = page.Means(g, 200)
	wantInts(t, "Means", x, e, []int{86, 86, 86, 86, 86, 86})
	x, e = page.Means(gray(2, 1, 0, 1), 1)
	wantInts(t, "Means", x, e, []int{1, 1})
	x, e = page.Means(gray(3, 1, 0, 0, 1), 1)
	wantInts(t, "Means", x, e, []int{0, 0, 1})
	for _, size := range [][2]int{{1, 1}, {1, 9}, {9, 1}, {7, 5}, {20, 31}} {
		g = mixed(size[0], size[1])
		for _, radius := range []int{0, 1, 2, 3, 5, 8, 30, 200} {
			x, e = page.Means(g, radius)
			wantInts(t, "Means", x, e, meansBySquares(g, radius))
		}
	}
	for _, radius := range []int{-1, 201, 1 << 32, mostInt, leastInt} {
		x, e = page.Means(g, radius)
		failInts(t, "Means", x, e, api.ErrRange)
	}
}

func TestMeansOfLargePage(t *testing.T) {
	g := plainGray(1024, 1024)
	want := make([]int, len(g.P))
	for i := range g.P {
		g.P[i], want[i] = 255, 255
	}
	x, e := page.Means(g, 200)
	if e != api.OK || len(x) != len(want) {
		t.Fatal(len(x), e)
	}
	for i := range x {
		if x[i] != 255 {
			t.Fatal(i, x[i])
		}
	}
}
