package glyph_test

import (
	"strings"
	"testing"

	"flatbed/api"
	"flatbed/glyph"
)

// The fonts, texts and pages here are of the least and of the greatest sizes, with ink that gives the functions as much
// to do as there is.

func TestLargeShapes(t *testing.T) {
	for _, size := range goodSizes() {
		w, h := size[0], size[1]
		full, empty := plain(w, h, true), plain(w, h, false)
		for reach := range 5 {
			n, e := glyph.Distance(full, full, reach)
			wantInt(t, "Distance", n, e, 0)
			n, e = glyph.Distance(full, empty, reach)
			wantInt(t, "Distance", n, e, w*h)
			n, e = glyph.Distance(draw("#"), full, reach)
			wantInt(t, "Distance", n, e, w*h-1)
		}
		comb := pattern(w, h, func(x, y int) bool { return x%2 == 0 && y%2 == 0 })
		moved := pattern(w, h, func(x, y int) bool { return x%2 == (w-1)%2 && y%2 == (h-1)%2 })
		n, e := glyph.Distance(comb, moved, 4)
		if e != api.OK || n > w+h {
			t.Error("Distance", size, n, e)
		}
		m, e := glyph.Match(greatest(), full, 4)
		if e != api.OK || len(m) != 200 || m[0].Text != greatest().Letters[0].Text || m[199].Distance < m[0].Distance {
			t.Error("Match", size, len(m), e)
		}
		p, e := glyph.Pieces(full)
		wantList(t, "Pieces", p, e, []api.Box{{W: w, H: h}})
		p, e = glyph.Pieces(empty)
		wantList(t, "Pieces", p, e, nil)
		p, e = glyph.Pieces(comb)
		if e != api.OK || len(p) != (w+1)/2 || p[len(p)-1] != (api.Box{X: 2 * (len(p) - 1), W: 1, H: h}) {
			t.Error("Pieces", size, len(p), e)
		}
	}
}

// TestLargeRead has as many pieces as a line can have, and as many letters that are as wide as they are.
func TestLargeRead(t *testing.T) {
	f := greatest()
	f.Gap, f.Space = 1, 2
	for i := range f.Letters {
		f.Letters[i].Bits = pattern(1+i%3, 64, func(x, y int) bool { return y != i/3%64 })
	}
	b := pattern(4000, 64, func(x, y int) bool { return x%2 == 0 })
	l, e := glyph.Read(f, b, 1000)
	if e != api.OK || len(l) != 2000 {
		t.Fatal(len(l), e)
	}
	for i, s := range l {
		// Each letter lacks the ink of one row: the first one is as near as all others.
		if s != (api.Seen{Text: f.Letters[0].Text, Box: api.Box{X: 2 * i, W: 1, H: 64}, Distance: 1, Second: 1}) {
			t.Fatal(i, s)
		}
	}
	l, e = glyph.Read(f, plain(4000, 64, true), 1000)
	wantList(t, "one piece", l, e, []api.Seen{{Text: "?", Box: api.Box{W: 4000, H: 64}, Distance: -1, Second: -1}})
	l, e = glyph.Read(least(), pattern(4000, 1, func(x, y int) bool { return x%2 == 0 }), 0)
	if e != api.OK || glyph.Text(l) != strings.Repeat("!", 2000) {
		t.Error(len(l), e)
	}
}

func TestLargeText(t *testing.T) {
	text := strings.Repeat("! ", 99) + "!!"
	b, e := glyph.Set(least(), text)
	if e != api.OK || b.W != 101+99*2+1 {
		t.Error(b.W, e)
	}
	l, e := glyph.Read(least(), b, 0)
	if e != api.OK || glyph.Text(l) != text {
		t.Error(len(l), e)
	}
	f := greatest()
	f.Gap, f.Space = 1, 2
	b, e = glyph.Set(f, f.Letters[0].Text+" "+f.Letters[199].Text+f.Letters[93].Text)
	if e != api.OK || b.W != 3*64+3 || b.H != 64 {
		t.Error(b.W, b.H, e)
	}
	if n, x, y, e := glyph.Apart(f); n != 2 || x != f.Letters[0].Text || y != f.Letters[1].Text || e != api.OK {
		t.Error(n, x, y, e)
	}
}
