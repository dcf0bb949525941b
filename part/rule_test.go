package part_test

import (
	"cmp"
	"slices"
	"testing"

	"flatbed/api"
	"flatbed/part"
)

// longPoints are those of the runs of ink in rows that have least pixels, run by run.
func longPoints(b api.Bits, least int) []api.Point {
	var l []api.Point
	for y := range b.H {
		var run []api.Point
		for x := 0; x <= b.W; x++ {
			if x < b.W && b.P[y*b.W+x] {
				run = append(run, api.Point{X: x, Y: y})
				continue
			}
			if len(run) >= least {
				l = append(l, run...)
			}
			run = nil
		}
	}
	return l
}

// linesOfRows are the pixels of each ruled line of rows.
func linesOfRows(b api.Bits, least int) [][]api.Point {
	points := longPoints(b, least)
	label := labels(len(points), func(i, j int) bool {
		x, y := points[i].X-points[j].X, points[i].Y-points[j].Y
		return max(x, -x)+max(y, -y) == 1
	})
	var l [][]api.Point
	for first := range points {
		var line []api.Point
		for i, at := range points {
			if label[i] == first {
				line = append(line, at)
			}
		}
		if len(line) > 0 {
			l = append(l, line)
		}
	}
	return l
}

// rulesByRuns is P70 for Rules.
func rulesByRuns(b api.Bits, least int) []api.Rail {
	type found struct {
		rail  api.Rail
		first api.Point
	}
	var l []found
	for _, line := range linesOfRows(b, least) {
		p := pieceOfPoints(line)
		l = append(l, found{api.Rail{Box: p.Box}, p.First})
	}
	for _, line := range linesOfRows(acrossBits(b), least) {
		for i := range line {
			line[i].X, line[i].Y = line[i].Y, line[i].X
		}
		p := pieceOfPoints(line)
		l = append(l, found{api.Rail{Box: p.Box, Down: true}, p.First})
	}
	key := func(f found) int {
		n := (f.first.Y*b.W + f.first.X) * 2
		if f.rail.Down {
			n++
		}
		return n
	}
	slices.SortFunc(l, func(f, g found) int { return cmp.Compare(key(f), key(g)) })
	var rails []api.Rail
	for _, f := range l {
		rails = append(rails, f.rail)
	}
	return rails
}

// withoutByPixels is P70 for Without: each pixel looks how far its run goes.
func withoutByPixels(b api.Bits, l []api.Rail) api.Bits {
	return pattern(b.W, b.H, func(x, y int) bool {
		for _, r := range l {
			if 2*runIn(b, r.Box, r.Down, x, y) >= lengthOf(r) {
				return false
			}
		}
		return b.P[y*b.W+x]
	})
}

func lengthOf(r api.Rail) int {
	if r.Down {
		return r.Box.H
	}
	return r.Box.W
}

// runIn tells how long the run of a pixel is within a box; without ink, or beside the box, it has none.
func runIn(b api.Bits, box api.Box, down bool, x, y int) int {
	has := func(x, y int) bool {
		return x >= box.X && x < box.X+box.W && y >= box.Y && y < box.Y+box.H && b.P[y*b.W+x]
	}
	dx, dy := 1, 0
	if down {
		dx, dy = 0, 1
	}
	n := 0
	for i := 0; has(x+i*dx, y+i*dy); i++ {
		n++
	}
	for i := 1; n > 0 && has(x-i*dx, y-i*dy); i++ {
		n++
	}
	return n
}

func rail(x, y, w, h int, down bool) api.Rail {
	return api.Rail{Box: api.Box{X: x, Y: y, W: w, H: h}, Down: down}
}

func TestRules(t *testing.T) {
	for _, c := range []struct {
		b     api.Bits
		least int
		want  []api.Rail
	}{
		{draw("##"), 2, []api.Rail{rail(0, 0, 2, 1, false)}},
		{draw("##"), 3, nil},
		{draw("#", "#", "#"), 2, []api.Rail{rail(0, 0, 1, 3, true)}},
		{draw("#.", ".#"), 2, nil},
		{draw("..", ".."), 2, nil},
		// A square is a line both ways: that of rows comes first.
		{draw("....", ".##.", ".##."), 2, []api.Rail{rail(1, 1, 2, 2, false), rail(1, 1, 2, 2, true)}},
		// Runs join by a column in common, not by a corner; a run that is too short does not join.
		{draw("###...", "..###.", ".....#"), 3, []api.Rail{rail(0, 0, 5, 2, false)}},
		{draw("###...", "...###"), 3, []api.Rail{rail(0, 0, 3, 1, false), rail(3, 1, 3, 1, false)}},
		{draw("###.", ".##.", ".###"), 3, []api.Rail{
			rail(0, 0, 3, 1, false), rail(1, 0, 2, 3, true), rail(1, 2, 3, 1, false),
		}},
		{draw("####.", "..#..", "####."), 4, []api.Rail{rail(0, 0, 4, 1, false), rail(0, 2, 4, 1, false)}},
		// Two runs of a row are one line by a third one below.
		{draw("##.##", ".###."), 2, []api.Rail{rail(0, 0, 5, 2, false), rail(1, 0, 1, 2, true), rail(3, 0, 1, 2, true)}},
		// A line of columns whose first pixel is not in its first column.
		{draw("..#", ".##", "###", "##.", "#.."), 3, []api.Rail{rail(0, 0, 3, 5, true), rail(0, 2, 3, 1, false)}},
		{draw("..#...", "..####", "..#...", "###..."), 3, []api.Rail{
			rail(2, 0, 1, 4, true), rail(2, 1, 4, 1, false), rail(0, 3, 3, 1, false),
		}},
	} {
		l, e := part.Rules(c.b, c.least)
		if !wantList(t, "Rules", l, e, c.want) {
			t.Log(picture(c.b), c.least)
		}
	}
	eachMixed(func(b api.Bits) {
		for _, least := range []int{2, 3, 4, 6, 9, 4000} {
			l, e := part.Rules(b, least)
			wantList(t, "Rules", l, e, rulesByRuns(b, least))
		}
	})
	for _, least := range append(wrongNumbers(2, 4000), 0) {
		l, e := part.Rules(draw("##", "##"), least)
		failList(t, "Rules", l, e, api.ErrRange)
	}
}

func TestWithout(t *testing.T) {
	b := draw(
		"######.#",
		"##.#..#.",
		"#.###.##",
		"#.##....",
	)
	for _, c := range []struct {
		l    []api.Rail
		want api.Bits
	}{
		{nil, b},
		// Half of 8 is 4.
		{[]api.Rail{rail(0, 0, 8, 1, false)}, draw(".......#", "##.#..#.", "#.###.##", "#.##....")},
		{[]api.Rail{rail(0, 2, 8, 1, false)}, b},
		// Half of 5 is 3, rounded up.
		{[]api.Rail{rail(0, 2, 5, 1, false)}, draw("######.#", "##.#..#.", "#.....##", "#.##....")},
		{[]api.Rail{rail(0, 3, 5, 1, false)}, b},
		{[]api.Rail{rail(0, 3, 4, 1, false)}, draw("######.#", "##.#..#.", "#.###.##", "#.......")},
		// Only what is in the box counts, and goes.
		{[]api.Rail{rail(3, 0, 5, 1, false)}, draw("###....#", "##.#..#.", "#.###.##", "#.##....")},
		{[]api.Rail{rail(4, 0, 4, 1, false)}, draw("####...#", "##.#..#.", "#.###.##", "#.##....")},
		{[]api.Rail{rail(4, 0, 4, 3, false)}, draw("####...#", "##.#..#.", "#.###...", "#.##....")},
		// The same box down takes away columns.
		{[]api.Rail{rail(0, 0, 4, 4, true)}, draw("..#.##.#", "......#.", "....#.##", "........")},
		{[]api.Rail{rail(1, 0, 1, 4, true)}, draw("#.####.#", "#..#..#.", "#.###.##", "#.##....")},
		{[]api.Rail{rail(7, 2, 1, 1, true)}, draw("######.#", "##.#..#.", "#.###.#.", "#.##....")},
		// A rail does not look at what another one leaves.
		{[]api.Rail{rail(0, 0, 1, 4, true), rail(0, 0, 2, 1, false)}, draw("..####.#", ".#.#..#.", "..###.##", "..##....")},
		{[]api.Rail{rail(0, 0, 8, 1, false), rail(1, 0, 1, 3, true)}, draw(".......#", "#..#..#.", "#.###.##", "#.##....")},
	} {
		x, e := part.Without(b, c.l)
		want := withoutByPixels(b, c.l)
		wantBits(t, "Without", x, e, want)
		if !sameBits(want, c.want) {
			t.Error("the pixels tell otherwise", c.l, picture(want), picture(c.want))
		}
	}
	eachMixed(func(b api.Bits) {
		var l []api.Rail
		eachBox(b, func(box api.Box) {
			l = append(l, api.Rail{Box: box, Down: chance(box.W, box.H) < 128})
			x, e := part.Without(b, l[len(l)-1:])
			wantBits(t, "Without", x, e, withoutByPixels(b, l[len(l)-1:]))
		})
		x, e := part.Without(b, l[1:])
		wantBits(t, "Without", x, e, withoutByPixels(b, l[1:]))
	})
}

// TestWithoutRules takes away a net of straight lines, but not what stands between.
func TestWithoutRules(t *testing.T) {
	b := pattern(40, 30, func(x, y int) bool { return x%13 < 2 || y%9 == 4 })
	want := []api.Rail{rail(0, 0, 2, 30, true), rail(13, 0, 2, 30, true), rail(26, 0, 2, 30, true), rail(39, 0, 1, 30, true)}
	for _, y := range []int{4, 13, 22} {
		want = append(want, rail(0, y, 40, 1, false))
	}
	l, e := part.Rules(b, 20)
	wantList(t, "Rules", l, e, want)
	x, e := part.Without(b, l)
	wantBits(t, "Without", x, e, plain(40, 30, false))
	letters := pattern(40, 30, func(x, y int) bool { return x%13 > 3 && x%13 < 12 && y%9 > 5 && chance(x, y) < 100 })
	for i, ink := range letters.P {
		b.P[i] = b.P[i] || ink
	}
	x, e = part.Without(b, l)
	wantBits(t, "Without", x, e, letters)
}

func TestWithoutErrors(t *testing.T) {
	b := draw("###", "...")
	good := []api.Rail{rail(0, 0, 3, 1, false), rail(1, 0, 2, 2, true)}
	for _, box := range wrongBoxes(3, 2) {
		for _, down := range []bool{false, true} {
			r := api.Rail{Box: box, Down: down}
			for _, l := range [][]api.Rail{{r}, {r, good[0]}, {good[0], good[1], r}, {good[0], r, good[1]}} {
				x, e := part.Without(b, l)
				failBits(t, "Without", x, e, api.ErrPlace)
			}
		}
	}
}
