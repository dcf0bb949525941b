package glyph_test

import (
	"testing"

	"flatbed/api"
	"flatbed/glyph"
)

// eachBadPage gives pages with each of the three errors.
func eachBadPage(visit func(b api.Bits, want api.Errno)) {
	for size, want := range map[[2]int]api.Errno{
		{0, 0}: api.ErrRange, {-1, -3}: api.ErrRange, {3, 0}: api.ErrRange, {0, 3}: api.ErrRange,
		{4001, 1}: api.ErrRange, {1, 4001}: api.ErrRange, {leastInt, leastInt}: api.ErrRange,
		{mostInt, mostInt}: api.ErrRange, {1 << 32, 3}: api.ErrRange, {3, 1<<32 + 1}: api.ErrRange,
		{1025, 1024}: api.ErrLarge, {4000, 263}: api.ErrLarge, {4000, 4000}: api.ErrLarge,
		{2, 2}: api.ErrForm, {1, 2}: api.ErrForm, {1024, 1024}: api.ErrForm,
	} {
		visit(api.Bits{W: size[0], H: size[1], P: make([]bool, 3)}, want)
		visit(api.Bits{W: size[0], H: size[1]}, want)
	}
}

// TestBadPages has other wrong arguments besides the page, too: the error of the page comes first.
func TestBadPages(t *testing.T) {
	f := tiny()
	eachBadPage(func(b api.Bits, want api.Errno) {
		for _, n := range []int{0, 1, -1, 5, 2000, mostInt} {
			d, e := glyph.Distance(b, draw("#"), n)
			failInt(t, "Distance", d, e, want)
			d, e = glyph.Distance(draw("#"), b, n)
			failInt(t, "Distance", d, e, want)
			m, e := glyph.Match(f, b, n)
			failList(t, "Match", m, e, want)
			s, e := glyph.Read(f, b, n)
			failList(t, "Read", s, e, want)
			c, e := glyph.Noise(b, 7, n)
			failBits(t, "Noise", c, e, want)
		}
		p, e := glyph.Pieces(b)
		failList(t, "Pieces", p, e, want)
		g, e := glyph.Learn(f, "x", []api.Bits{plain(2, 5, true), b, plain(2, 4, true)})
		failFont(t, "Learn", g, e, want)
	})
}

// TestBadFonts has other wrong arguments besides the font, too: the error of the font comes first.
func TestBadFonts(t *testing.T) {
	eachBadFont(func(name string, f api.Font, want api.Errno) {
		for _, text := range []string{"i", "", " ", "x"} {
			if l, e := glyph.Letter(f, text); e != want || !sameLetter(l, api.Letter{}) {
				t.Error("Letter", name, l, e)
			}
			n, e := glyph.Width(f, text)
			failInt(t, "Width "+name, n, e, want)
			b, e := glyph.Set(f, text)
			failBits(t, "Set "+name, b, e, want)
			for _, n := range []int{1, -1, 65, mostInt} {
				b, e = glyph.SetLines(f, []string{text}, n)
				failBits(t, "SetLines "+name, b, e, want)
				l, e := glyph.Fit(f, text, n)
				failList(t, "Fit "+name, l, e, want)
			}
			for _, samples := range [][]api.Bits{{plain(1, 5, true)}, nil, {{}}} {
				g, e := glyph.Learn(f, text, samples)
				failFont(t, "Learn "+name, g, e, want)
			}
		}
		b, e := glyph.SetLines(f, nil, 0)
		failBits(t, "SetLines "+name, b, e, want)
		for _, b := range []api.Bits{plain(1, 5, true), plain(1, 1, true), {}, {W: 1, H: 5}} {
			for _, n := range []int{0, -1, 1001} {
				m, e := glyph.Match(f, b, n)
				failList(t, "Match "+name, m, e, want)
				s, e := glyph.Read(f, b, n)
				failList(t, "Read "+name, s, e, want)
			}
		}
		if n, a, b, e := glyph.Apart(f); n != 0 || a != "" || b != "" || e != want {
			t.Error("Apart", name, n, a, b, e)
		}
		if text, e := glyph.Print(f); text != "" || e != want {
			t.Error("Print", name, text, e)
		}
	})
}
