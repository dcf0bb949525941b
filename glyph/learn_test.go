package glyph_test

import (
	"slices"
	"strings"
	"testing"

	"flatbed/api"
	"flatbed/glyph"
)

func TestLearn(t *testing.T) {
	f := tiny()
	x, y, z := draw("#.", "##", "##", "##", "##"), draw("..", "##", "#.", "#.", "##"), draw(".#", "##", "##", "#.", "##")
	for _, c := range []struct {
		name    string
		samples []api.Bits
		want    api.Bits
	}{
		{"one", []api.Bits{x}, x},
		{"more than half of three", []api.Bits{x, y, z}, draw("..", "##", "##", "#.", "##")},
		{"half of two is not more", []api.Bits{x, y}, y},
		{"half of four is not more", []api.Bits{x, x, y, y}, y},
		{"three of four", []api.Bits{x, x, y, x}, x},
		// Columns without ink go at both sides, rows stay.
		{"left", []api.Bits{draw("..#.", "....", "...#", "....", "....")}, draw("#.", "..", ".#", "..", "..")},
		{"both sides", []api.Bits{draw("...", ".#.", ".#.", "...", "...")}, draw(".", "#", "#", ".", ".")},
		{"by the majority", []api.Bits{draw("##", ".#", ".#", ".#", ".#"), draw(".#", ".#", ".#", ".#", ".#")}, draw("#", "#", "#", "#", "#")},
		{"wide", []api.Bits{plain(64, 5, true)}, plain(64, 5, true)},
		{"wide with rims", []api.Bits{pattern(4000, 5, func(x, y int) bool { return x >= 1000 && x < 1064 })}, plain(64, 5, true)},
		{"100 samples", slices.Repeat([]api.Bits{x, x, x, y, z}, 20), x},
	} {
		want := tiny()
		want.Letters = append(want.Letters, api.Letter{Text: "new", Bits: c.want})
		g, e := glyph.Learn(f, "new", c.samples)
		wantFont(t, c.name, g, e, want)
		for i, l := range f.Letters {
			want := tiny()
			want.Letters[i].Bits = c.want
			g, e := glyph.Learn(f, l.Text, c.samples)
			wantFont(t, c.name+" as "+l.Text, g, e, want)
		}
	}
	// What is learned can look like another letter.
	g, e := glyph.Learn(f, "L", []api.Bits{f.Letters[1].Bits})
	want := tiny()
	want.Letters = append(want.Letters, api.Letter{Text: "L", Bits: f.Letters[1].Bits})
	wantFont(t, "alike", g, e, want)
}

func TestLearnErrors(t *testing.T) {
	f := tiny()
	good, form := plain(1, 5, true), api.Bits{W: 1, H: 5}
	for _, text := range wrongLetterTexts() {
		for _, samples := range [][]api.Bits{{good}, nil, slices.Repeat([]api.Bits{form}, 101)} {
			g, e := glyph.Learn(f, text, samples)
			failFont(t, text, g, e, api.ErrForm)
		}
	}
	for _, c := range []struct {
		name    string
		samples []api.Bits
		want    api.Errno
	}{
		{"none", nil, api.ErrEmpty},
		{"none", []api.Bits{}, api.ErrEmpty},
		{"101 samples", slices.Repeat([]api.Bits{good}, 101), api.ErrLarge},
		{"101 bad samples", slices.Repeat([]api.Bits{form}, 101), api.ErrLarge},
		{"a bad page", []api.Bits{good, good, form}, api.ErrForm},
		{"a page of size 0", []api.Bits{good, {}, form}, api.ErrRange},
		{"too low", []api.Bits{plain(1, 4, true)}, api.ErrConflict},
		{"too high", []api.Bits{plain(1, 6, true), plain(1, 6, true)}, api.ErrConflict},
		{"the second one too high", []api.Bits{good, plain(1, 6, true)}, api.ErrConflict},
		{"wider than the first one", []api.Bits{good, plain(2, 5, true)}, api.ErrConflict},
		{"narrower than the first one", []api.Bits{plain(2, 5, true), plain(2, 5, true), good}, api.ErrConflict},
		// The first bad sample decides.
		{"a conflict, then a bad page", []api.Bits{good, plain(2, 5, true), form}, api.ErrConflict},
		{"a bad page, then a conflict", []api.Bits{good, form, plain(2, 5, true)}, api.ErrForm},
		{"a conflict in the first one, then a bad page", []api.Bits{plain(1, 4, true), form}, api.ErrConflict},
		// The font that would be has an error.
		{"too wide", []api.Bits{plain(65, 5, true)}, api.ErrLarge},
		{"too wide with rims", []api.Bits{pattern(70, 5, func(x, y int) bool { return x == 1 || x == 66 })}, api.ErrLarge},
		{"a gap", []api.Bits{draw("#.#", "#.#", "#.#", "#.#", "#.#")}, api.ErrForm},
		{"a gap by the majority", []api.Bits{draw("#.#", "#.#", "#.#", "#.#", "#.#"), plain(3, 5, true)}, api.ErrForm},
		{"no ink", []api.Bits{plain(3, 5, false)}, api.ErrRange},
		{"no ink by the majority", []api.Bits{plain(3, 5, false), plain(3, 5, true)}, api.ErrRange},
	} {
		for _, text := range []string{"new", "o"} {
			g, e := glyph.Learn(f, text, c.samples)
			failFont(t, c.name, g, e, c.want)
		}
	}
}

// TestLearnLarge has a font with as many letters as it can have: one more is too much, in the place of one it is not.
func TestLearnLarge(t *testing.T) {
	f := greatest()
	for _, ink := range []bool{false, true} {
		g, e := glyph.Learn(f, "a", []api.Bits{plain(1, 64, ink)})
		failFont(t, "letter 201", g, e, api.ErrLarge)
	}
	want := greatest()
	want.Letters[123].Bits = plain(9, 64, true)
	g, e := glyph.Learn(f, f.Letters[123].Text, []api.Bits{plain(9, 64, true)})
	wantFont(t, "letter 123", g, e, want)
	f.Letters = f.Letters[:199]
	want = greatest()
	want.Letters[199] = api.Letter{Text: "a", Bits: plain(1, 64, true)}
	g, e = glyph.Learn(f, "a", []api.Bits{plain(1, 64, true)})
	wantFont(t, "letter 199", g, e, want)
	l := slices.Repeat([]api.Bits{plain(4000, 64, true)}, 100)
	g, e = glyph.Learn(f, "a", l)
	failFont(t, "the widest samples", g, e, api.ErrLarge)
}

// TestLearnOfNoise learns the letters of a font from samples that are noisy.
func TestLearnOfNoise(t *testing.T) {
	f := mixedFont(12, 8, 1, 2)
	g := f
	for i, l := range f.Letters {
		var samples []api.Bits
		for seed := range 100 {
			b, e := glyph.Noise(l.Bits, uint32(100*i+seed), 100)
			if e != api.OK {
				t.Fatal(e)
			}
			samples = append(samples, b)
		}
		var e api.Errno
		if g, e = glyph.Learn(g, strings.ToUpper(l.Text), samples); e != api.OK {
			t.Fatal(l.Text, e)
		}
	}
	for i, l := range f.Letters {
		if len(g.Letters) != 16 || !sameBits(g.Letters[8+i].Bits, l.Bits) || !sameLetter(g.Letters[i], l) {
			t.Error(l.Text, picture(g.Letters[8+i].Bits), picture(l.Bits))
		}
	}
}
