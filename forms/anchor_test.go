package forms_test

import (
	"fmt"
	"slices"
	"testing"

	"flatbed/api"
	"flatbed/forms"
)

// formOf makes a form of anchors. Its field is a pixel in a corner.
func formOf(w, h, reach int, anchors ...api.Anchor) api.Form {
	return api.Form{Name: "a", W: w, H: h, Reach: reach, Dark: 500, Anchors: anchors, Fields: []api.Field{codeField("b", box(w-1, h-1, 1, 1))}}
}

// wantPlaces holds the three functions against the promise.
func wantPlaces(t *testing.T, what string, f api.Form, b api.Bits) {
	t.Helper()
	l, e := forms.Anchors(f, b)
	wantList(t, "Anchors "+what, l, e, anchorsByPromise(f, b))
	p, e := forms.Offset(f, b)
	if e != api.OK || p != offsetByPromise(f, b) {
		t.Error("Offset", what, p, e)
	}
	c, e := forms.Place(f, b)
	wantBits(t, "Place "+what, c, e, placeByPromise(f, b))
}

func TestAnchors(t *testing.T) {
	f := formOf(12, 8, 2, anchor(3, 2, "##", "#."), anchor(8, 4, ".#"))
	for _, c := range []struct {
		rows []string
		want []api.Found
		at   api.Point
	}{
		{[]string{"............", "............", "...##.......", "...#........", ".........#..", "............", "............", "............"}, []api.Found{{}, {}}, api.Point{}},
		{[]string{"............", "............", "............", "....##......", "....#.......", "..........#.", "............", "............"}, []api.Found{{DX: 1, DY: 1}, {DX: 1, DY: 1}}, api.Point{X: 1, Y: 1}},
		// One of two is lower than it should be: of two, the less counts.
		{[]string{"............", "............", "..##........", "..#.........", "............", "............", "..........#.", "............"}, []api.Found{{DX: -1}, {DX: 1, DY: 2}}, api.Point{X: -1}},
		// The first anchor lacks a pixel: it is nearest where the other two are.
		{[]string{"............", "............", "............", "...##.......", "............", ".........#..", "............", "............"}, []api.Found{{DY: 1, Distance: 1}, {DY: 1}}, api.Point{Y: 1}},
	} {
		b := draw(c.rows...)
		l, e := forms.Anchors(f, b)
		wantList(t, picture(b), l, e, c.want)
		p, e := forms.Offset(f, b)
		if p != c.at || e != api.OK {
			t.Error(picture(b), p, e)
		}
		got, e := forms.Place(f, b)
		wantBits(t, picture(b), got, e, moved(b, -c.at.X, -c.at.Y))
		wantPlaces(t, "small", f, b)
	}
}

// TestAnchorsTies has an anchor that is found equally well at several places.
func TestAnchorsTies(t *testing.T) {
	f := formOf(9, 9, 3, anchor(4, 4, "#"))
	for _, c := range []struct {
		ink  [][2]int
		want api.Found
	}{
		{nil, api.Found{Distance: 1}},
		{[][2]int{{4, 4}, {4, 3}, {3, 4}}, api.Found{}},
		{[][2]int{{5, 4}, {3, 4}, {4, 5}, {4, 3}}, api.Found{DY: -1}},
		{[][2]int{{5, 4}, {3, 4}, {4, 5}}, api.Found{DX: -1}},
		{[][2]int{{5, 4}, {4, 5}}, api.Found{DX: 1}},
		{[][2]int{{5, 5}, {3, 5}, {6, 4}, {4, 6}}, api.Found{DX: 2}},
		{[][2]int{{5, 5}, {3, 5}, {4, 6}}, api.Found{DX: -1, DY: 1}},
		{[][2]int{{5, 5}, {4, 7}}, api.Found{DX: 1, DY: 1}},
		{[][2]int{{1, 1}, {7, 7}, {7, 1}, {1, 7}}, api.Found{DX: -3, DY: -3}},
		{[][2]int{{7, 7}, {7, 1}, {1, 7}}, api.Found{DX: 3, DY: -3}},
		{[][2]int{{0, 4}, {8, 4}, {4, 0}, {4, 8}}, api.Found{Distance: 1}},
		{[][2]int{{7, 4}, {6, 5}}, api.Found{DX: 3}},
	} {
		b := plain(9, 9, false)
		for _, at := range c.ink {
			b.P[at[1]*9+at[0]] = true
		}
		l, e := forms.Anchors(f, b)
		wantList(t, fmt.Sprint(c.ink), l, e, []api.Found{c.want})
		wantPlaces(t, "tie", f, b)
	}
}

// TestAnchorsAtBorders has shapes that lie in the page at few places only, and pages of any ink.
func TestAnchorsAtBorders(t *testing.T) {
	f := formOf(11, 7, 40, api.Anchor{Bits: mixedBits(3, 10, 7, 128)})
	f.Fields[0].Box = box(10, 0, 1, 7)
	for seed, dark := range []int{0, 60, 128, 200, 256} {
		wantPlaces(t, "nearly whole", f, mixedBits(seed, 11, 7, dark))
	}
	for seed := range 60 {
		w, h := 20+number(seed, 0)%100, 20+number(seed, 1)%150
		f := formOf(w, h, number(seed, 2)%41)
		for i := range 1 + number(seed, 3)%3 {
			a := api.Anchor{Bits: mixedBits(seed+i, 1+number(seed, 4*i)%18, 1+number(seed, 4*i+1)%(h/4), 128), Y: i * h / 3}
			a.Bits.P[0] = true
			a.X = number(seed, 4*i+2) % (w - a.Bits.W)
			f.Anchors = append(f.Anchors, a)
		}
		// A page where the anchors are somewhere else, and turned over in part.
		b := plain(w, h, false)
		for _, a := range f.Anchors {
			for i, ink := range a.Bits.P {
				x, y := a.X+i%a.Bits.W-f.Reach/2, a.Y+i/a.Bits.W+f.Reach/3
				if ink && x >= 0 && y < h {
					b.P[y*w+x] = true
				}
			}
		}
		for i := range b.P {
			b.P[i] = b.P[i] != (number(seed, i) < 20)
		}
		wantPlaces(t, fmt.Sprint(seed), f, b)
		wantPlaces(t, fmt.Sprint(seed), f, mixedBits(seed, w, h, 128))
	}
}

// TestAnchorsHigh has shapes of more rows than a word of the computer has bits.
func TestAnchorsHigh(t *testing.T) {
	for _, h := range []int{1, 2, 63, 64, 65, 127, 128, 129, 200} {
		f := formOf(9, 210, 4, api.Anchor{Bits: mixedBits(h, 3, h, 128), X: 2, Y: 5})
		f.Anchors[0].Bits.P[0] = true
		for dy := -4; dy <= 4; dy++ {
			b := plain(9, 210, dy%2 == 0)
			for i, ink := range f.Anchors[0].Bits.P {
				b.P[(5+dy+i/3)*9+3+i%3] = ink
			}
			wantPlaces(t, fmt.Sprint(h, dy), f, b)
		}
	}
}

// TestOffset has the middle of any number of anchors, which are pulled to all sides.
func TestOffset(t *testing.T) {
	for n := range 11 {
		f := formOf(300, 40, 9)
		b := plain(300, 40, false)
		var across, down []int
		for i := range n {
			dx, dy := number(n, i)%19-9, number(n, i+20)%19-9
			f.Anchors = append(f.Anchors, anchor(12+28*i, 20, "#"))
			b.P[(20+dy)*300+12+28*i+dx] = true
			across, down = append(across, dx), append(down, dy)
		}
		slices.Sort(across)
		slices.Sort(down)
		want := api.Point{}
		if n > 0 {
			want = api.Point{X: across[(n-1)/2], Y: down[(n-1)/2]}
		}
		p, e := forms.Offset(f, b)
		if p != want || e != api.OK {
			t.Error(n, p, e, want)
		}
		wantPlaces(t, fmt.Sprint(n), f, b)
	}
}

// TestPlaceAll moves pages by all offsets: what leaves the page is lost.
func TestPlaceAll(t *testing.T) {
	f := formOf(20, 18, 7, anchor(7, 7, "##", "##"))
	for dx := -7; dx <= 7; dx++ {
		for dy := -7; dy <= 7; dy++ {
			b := mixedBits(dx+20*dy, 20, 18, 30)
			for y := range 18 {
				for x := range 20 {
					if x >= 0 && x < 16 && y < 16 {
						b.P[y*20+x] = x >= 7+dx && x <= 8+dx && y >= 7+dy && y <= 8+dy
					}
				}
			}
			got, e := forms.Place(f, b)
			wantBits(t, fmt.Sprint(dx, dy), got, e, moved(b, -dx, -dy))
		}
	}
	bare := formOf(20, 18, 40)
	b := mixedBits(1, 20, 18, 128)
	got, e := forms.Place(bare, b)
	wantBits(t, "without anchors", got, e, b)
	found, e := forms.Anchors(bare, b)
	wantList(t, "without anchors", found, e, nil)
}

func TestAnchorsConflict(t *testing.T) {
	f := order()
	for _, size := range [][2]int{{129, 60}, {131, 60}, {130, 59}, {130, 61}, {60, 130}, {1, 1}, {1024, 1024}, {4000, 1}} {
		failAll(t, fmt.Sprint(size), f, plain(size[0], size[1], true), tiny(), api.ErrConflict)
	}
}

func TestBest(t *testing.T) {
	one := formOf(12, 8, 2, anchor(3, 2, "##", "#."), anchor(8, 4, ".#"))
	other := formOf(12, 8, 2, anchor(3, 2, "##", "##"))
	bare, large := formOf(12, 8, 2), formOf(13, 8, 2, anchor(3, 2, "##", "#."))
	b := draw("............", "............", "............", "....##......", "....#.......", "..........#.", "............", "............")
	for _, c := range []struct {
		l         []api.Form
		best, sum int
		want      api.Errno
	}{
		{nil, 0, 0, api.ErrNone}, {[]api.Form{large}, 0, 0, api.ErrNone},
		{[]api.Form{one}, 0, 0, api.OK}, {[]api.Form{one, one}, 0, 0, api.OK}, {[]api.Form{large, one, other, one}, 1, 0, api.OK},
		{[]api.Form{other}, 0, 250, api.OK}, {[]api.Form{other, one}, 1, 0, api.OK}, {[]api.Form{bare, other, large, other}, 1, 250, api.OK},
		{[]api.Form{bare}, 0, 1000, api.OK}, {[]api.Form{large, bare, bare}, 1, 1000, api.OK},
	} {
		n, sum, e := forms.Best(c.l, b)
		if n != c.best || sum != c.sum || e != c.want {
			t.Error(n, sum, e, c.best, c.sum, c.want)
		}
	}
	// All differs: as bad as a form without anchors.
	worst := formOf(12, 8, 0, anchor(3, 2, "#", "#", "#"))
	for i, l := range [][]api.Form{{worst, bare}, {bare, worst}} {
		if n, sum, e := forms.Best(l, plain(12, 8, false)); n != 0 || sum != 1000 || e != api.OK {
			t.Error(i, n, sum, e)
		}
	}
	// 1 of 3 pixels is rounded down, and nothing but what is rounded is compared.
	third, less := formOf(12, 8, 0, anchor(3, 2, "###")), formOf(12, 8, 0, api.Anchor{Bits: plain(12, 7, true)}, anchor(0, 7, "######"))
	c := plain(12, 8, true)
	c.P[2*12+4] = false
	if n, sum, e := forms.Best([]api.Form{third, less}, c); n != 1 || sum != 11 || e != api.OK {
		t.Error(n, sum, e)
	}
	if n, sum, e := forms.Best([]api.Form{third}, c); n != 0 || sum != 333 || e != api.OK {
		t.Error(n, sum, e)
	}
	c.P[0] = false
	flat := formOf(12, 8, 0, anchor(0, 0, "#######"), anchor(0, 1, "#######"), anchor(0, 2, "#######"))
	wider := formOf(12, 8, 0, anchor(0, 0, "#######"), anchor(0, 1, "#######"), anchor(0, 2, "########"))
	flat.Anchors[0].Bits.P[1], wider.Anchors[0].Bits.P[1] = false, false
	if n, sum, e := forms.Best([]api.Form{flat, wider}, c); n != 1 || sum != 136 || e != api.OK {
		t.Error(n, sum, e)
	}
}

// TestBestRounded has two forms whose sums differ by less than what is told: the first one is the best.
func TestBestRounded(t *testing.T) {
	f, g := formOf(100, 40, 0, api.Anchor{Bits: plain(100, 30, true)}), formOf(100, 40, 0, api.Anchor{Bits: plain(99, 30, true)})
	b := plain(100, 40, true)
	for i := range 5 {
		b.P[7*i] = false
	}
	// 5 of 3000 and 5 of 2970 are 1 of 1000.
	for i, l := range [][]api.Form{{f, g}, {g, f}, {f, f}} {
		if n, sum, e := forms.Best(l, b); n != 0 || sum != 1 || e != api.OK {
			t.Error(i, n, sum, e)
		}
	}
}

func TestBestMixed(t *testing.T) {
	for seed := range 40 {
		var l []api.Form
		for i := range 8 {
			f := formOf(30, 20+number(seed, i)%2, number(seed, i+9)%4)
			for k := range number(seed, i+18) % 4 {
				a := api.Anchor{Bits: mixedBits(seed+k, 1+number(i, k)%4, 1+number(i, k+4)%4, 128), X: 1 + 7*k, Y: number(seed, k) % 14}
				a.Bits.P[0] = true
				f.Anchors = append(f.Anchors, a)
			}
			l = append(l, f)
		}
		b := mixedBits(seed, 30, 20, 128)
		n, sum, e := forms.Best(l, b)
		best, least := bestByPromise(l, b)
		if best < 0 {
			t.Fatal("no form is as large")
		}
		if n != best || sum != least || e != api.OK {
			t.Error(seed, n, sum, e, best, least)
		}
	}
}

func TestBestErrors(t *testing.T) {
	good, b := order(), plain(130, 60, false)
	bad, worse := order(), order()
	bad.Dark, worse.Name = 0, ""
	for _, c := range []struct {
		l    []api.Form
		b    api.Bits
		want api.Errno
	}{
		{slices.Repeat([]api.Form{good}, 101), b, api.ErrLarge}, {make([]api.Form, 101), api.Bits{}, api.ErrLarge},
		{make([]api.Form, 100), b, api.ErrName}, {[]api.Form{good, bad, worse}, api.Bits{}, api.ErrRange},
		{[]api.Form{good, worse, bad}, b, api.ErrName}, {[]api.Form{good}, api.Bits{}, api.ErrRange}, {nil, api.Bits{W: 1, H: 2}, api.ErrForm},
		{nil, api.Bits{W: 1025, H: 1024}, api.ErrLarge}, {nil, b, api.ErrNone}, {slices.Repeat([]api.Form{good}, 100), plain(60, 130, false), api.ErrNone},
	} {
		n, sum, e := forms.Best(c.l, c.b)
		if n != 0 || sum != 0 || e != c.want {
			t.Error(n, sum, e, c.want)
		}
	}
	if n, _, e := forms.Best(slices.Repeat([]api.Form{good}, 100), b); n != 0 || e != api.OK {
		t.Error(n, e)
	}
}
