package part_test

import (
	"testing"

	"flatbed/api"
	"flatbed/part"
)

// The pages here are of the least and of the greatest sizes, with ink that gives the functions as much to do as there is.

func TestLargePages(t *testing.T) {
	for _, size := range goodSizes() {
		w, h := size[0], size[1]
		b, box := plain(w, h, true), api.Box{W: w, H: h}
		p, e := part.Pieces(b)
		wantList(t, "Pieces", p, e, []api.Piece{{Box: box, Count: w * h}})
		for _, gap := range []int{1, 4000} {
			l, e := part.Split(b, box, gap, gap)
			wantList(t, "Split", l, e, []api.Box{box})
			l, e = part.Rows(b, box, gap)
			wantList(t, "Rows", l, e, []api.Box{box})
			l, e = part.Words(b, box, gap)
			wantList(t, "Words", l, e, []api.Box{box})
		}
		n, e := part.Gap(b, box)
		wantInt(t, "Gap", n, e, 1)
		n, e = part.Base(b, box)
		wantInt(t, "Base", n, e, h-1)
		var rails []api.Rail
		if w > 1 {
			rails = append(rails, api.Rail{Box: box})
		}
		if h > 1 {
			rails = append(rails, api.Rail{Box: box, Down: true})
		}
		r, e := part.Rules(b, 2)
		wantList(t, "Rules", r, e, rails)
		c, e := part.Without(b, []api.Rail{{Box: box, Down: w > h}})
		if e != api.OK || !sameBits(c, plain(w, h, false)) {
			t.Error("Without", size, e)
		}
		for word := range 2 {
			wantLarge(t, b, api.Ways{Least: 1, GapX: 4000, GapY: 1, Line: 4000, Word: word * 4000}, 1)
			wantLarge(t, b, api.Ways{Least: w * h, GapX: 1, GapY: 1, Line: 1, Word: word}, 1)
			wantLarge(t, plain(w, h, false), api.Ways{Least: 1, GapX: 1, GapY: 1, Line: 1, Word: word}, 0)
		}
	}
}

// wantLarge wants a layout of so many blocks and words.
func wantLarge(t *testing.T, b api.Bits, w api.Ways, count int) {
	t.Helper()
	l, e := part.Layout(b, w)
	if e != api.OK || len(l) != count || len(part.Flat(l)) != count {
		t.Error("Layout", b.W, b.H, w, len(l), len(part.Flat(l)), e)
	}
}

// TestLargeDots has as many pieces as there can be; ink touches none of the others.
func TestLargeDots(t *testing.T) {
	for _, size := range goodSizes() {
		b := pattern(size[0], size[1], func(x, y int) bool { return x%2 == 0 && y%2 == 0 })
		across, down := (b.W+1)/2, (b.H+1)/2
		p, e := part.Pieces(b)
		last := api.Point{X: 2 * (across - 1), Y: 2 * (down - 1)}
		want := api.Piece{Box: api.Box{X: last.X, Y: last.Y, W: 1, H: 1}, Count: 1, First: last}
		if e != api.OK || len(p) != across*down || p[len(p)-1] != want {
			t.Error("Pieces", size, len(p), e)
		}
		n, e := part.Base(b, api.Box{W: b.W, H: b.H})
		wantInt(t, "Base", n, e, last.Y)
		l, e := part.Layout(b, api.Ways{Least: 1, GapX: 4000, GapY: 4000, Line: 1, Word: 1})
		if e != api.OK || len(l) != 1 || len(l[0].Lines) != down || len(part.Flat(l)) != across*down {
			t.Error("Layout", size, len(l), e)
		}
	}
}

// TestLargeComb has stretches that are cut one by one.
func TestLargeComb(t *testing.T) {
	b := pattern(4000, 262, func(x, y int) bool { return x%2 == 0 })
	for _, c := range []api.Bits{b, acrossBits(b)} {
		for _, gap := range [][2]int{{1, 1}, {1, 4000}, {4000, 1}} {
			l, e := part.Split(c, api.Box{W: c.W, H: c.H}, gap[0], gap[1])
			count := 2000
			if c.W > c.H && gap[0] > 1 || c.W < c.H && gap[1] > 1 {
				count = 1
			}
			if e != api.OK || len(l) != count {
				t.Error("Split", c.W, gap, len(l), e)
			}
		}
		r, e := part.Rules(c, 2)
		if e != api.OK || len(r) != 2000 {
			t.Error("Rules", c.W, len(r), e)
		}
		x, e := part.Without(c, r)
		if e != api.OK || !sameBits(x, plain(c.W, c.H, false)) {
			t.Error("Without", c.W, e)
		}
	}
}

// TestLargeStairs has as many boxes as there can be, which are cut off one by one.
func TestLargeStairs(t *testing.T) {
	var l []api.Box
	var want []int
	for i := range api.MaxBoxes {
		l = append(l, api.Box{X: 200*(api.MaxBoxes-1-i) - far/2, Y: 100*(api.MaxBoxes-1-i) - far/2, W: 100, H: 60})
		want = append(want, api.MaxBoxes-1-i)
	}
	for _, gap := range [][2]int{{1, 1}, {100, 4000}, {4000, 40}, {101, 41}} {
		o, e := part.Order(l, gap[0], gap[1])
		wantList(t, "Order", o, e, want)
	}
	for d, count := range map[int]int{0: api.MaxBoxes, 99: api.MaxBoxes, 100: 1, far: 1} {
		g, e := part.Groups(l, d, d)
		if e != api.OK || len(g) != count {
			t.Error("Groups", d, len(g), e)
		}
	}
}
