package skew_test

import (
	"testing"

	"flatbed/api"
	"flatbed/skew"
)

// The pages here are of the least and of the greatest sizes, with ink that gives the functions as much to do as there is.

func TestLargeLeans(t *testing.T) {
	for _, size := range goodSizes() {
		b := mixedBits(size[0], size[1], 128)
		for _, n := range []int{0, 256, -256, 77} {
			x, e := skew.Lean(b, n)
			wantLarge(t, "Lean", x, e, onPage(b, n, eachLeaned))
			x, e = skew.Slant(b, n)
			wantLarge(t, "Slant", x, e, onPage(b, n, eachSlanted))
			want := profileByPixels(b, n)
			p, e := skew.Profile(b, n)
			wantInts(t, "Profile", p, e, want)
			s, e := skew.Score(b, n)
			wantInt(t, "Score", s, e, squares(want))
		}
	}
	s, e := skew.Score(plain(4000, 262, true), 0)
	wantInt(t, "Score", s, e, 262*4000*4000)
}

// TestLargeFinds has full pages: they stand best as they are.
func TestLargeFinds(t *testing.T) {
	for _, size := range goodSizes() {
		b := plain(size[0], size[1], true)
		n, e := skew.Find(b, 256)
		wantInt(t, "Find", n, e, 0)
		n, e = skew.FindSlant(b, 256)
		wantInt(t, "FindSlant", n, e, 0)
		x, n, e := skew.Straight(b, 256)
		wantLarge(t, "Straight", x, e, b)
		wantInt(t, "Straight", n, e, 0)
	}
}

// TestLargeRuled finds just the n by which a page leans, as it is so wide that each n moves some column otherwise.
func TestLargeRuled(t *testing.T) {
	b := ruled(1024, 1024, func(y int) bool { return y >= 130 && y < 890 && y%40 < 12 })
	columns := plain(1024, 1024, false)
	for i := range columns.P {
		columns.P[i] = b.P[i%1024*1024]
	}
	for _, n := range []int{1, -1, 100, -255, 256} {
		leaned, e := skew.Lean(b, n)
		if e != api.OK {
			t.Fatal(n, e)
		}
		x, m, e := skew.Straight(leaned, 256)
		wantLarge(t, "Straight", x, e, b)
		wantInt(t, "Straight", m, e, n)
		slanted, e := skew.Slant(columns, n)
		if e != api.OK {
			t.Fatal(n, e)
		}
		m, e = skew.FindSlant(slanted, 256)
		wantInt(t, "FindSlant", m, e, n)
	}
}

func TestLargeSheets(t *testing.T) {
	for _, size := range goodSizes() {
		w, h := size[0], size[1]
		b := plain(w, h, true)
		upright := 0
		if h > w {
			upright = 1
		}
		n, e := skew.Upright(b)
		wantInt(t, "Upright", n, e, upright)
		box, e := skew.Sheet(plainGray(w, h, 255), 255, 1)
		if e != api.OK || box != (api.Box{W: w, H: h}) {
			t.Error("Sheet", size, box, e)
		}
		box, e = skew.Sheet(plainGray(w, h, 255), 256, 1000)
		failBox(t, box, e, api.ErrNone)
		x, e := skew.Centre(b, w, h)
		wantLarge(t, "Centre", x, e, b)
		x, e = skew.Centre(b, 1, 1)
		wantBits(t, "Centre", x, e, draw("#"))
		x, e = skew.Centre(draw("#"), w, h)
		want := plain(w, h, false)
		want.P[(h-1)/2*w+(w-1)/2] = true
		wantLarge(t, "Centre", x, e, want)
	}
}

func TestLargeAligns(t *testing.T) {
	for _, size := range goodSizes() {
		a := mixedBits(size[0], size[1], 128)
		a.P[0] = true
		wantAlign(t, a, a, 8, 0, 0, 0)
		dx, dy := min(size[0]-1, 8), -min(size[1]-1, 7)
		b := movedBits(a, dx, dy)
		wantAlign(t, a, b, 8, -dx, -dy, differByPixels(a, b, -dx, -dy))
	}
}
