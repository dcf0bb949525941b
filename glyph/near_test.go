package glyph_test

import (
	"slices"
	"testing"

	"flatbed/api"
	"flatbed/glyph"
)

func TestDistance(t *testing.T) {
	cross := draw(".#.", "###", ".#.")
	for _, c := range []struct {
		a, b  api.Bits
		reach int
		want  int
	}{
		{draw("#"), draw("#"), 0, 0}, {draw("#"), draw("."), 4, 1}, {draw("."), draw(".."), 4, 0},
		{cross, cross, 0, 0}, {cross, plain(3, 3, true), 0, 4}, {cross, plain(3, 3, false), 4, 5},
		// Outside of both there is no ink: what lies beyond the other one counts, if it has some.
		{draw("##"), draw("##", "##"), 0, 2}, {draw("#.", ".."), draw("#"), 0, 0}, {draw("#..."), draw("#", "#", "#"), 0, 2},
		{draw(".#"), draw("#"), 0, 2}, {draw(".#"), draw("#"), 1, 0}, {draw("#"), draw(".#"), 1, 0}, {draw("#"), draw(".", "#"), 1, 0},
		{draw("..#"), draw("#"), 1, 2}, {draw("..#"), draw("#"), 2, 0}, {draw("#"), draw(".....#"), 4, 2}, {draw("#"), draw("....#"), 4, 0},
		// It is moved in both ways at once, but as a whole.
		{draw("...", "...", "..#"), draw("#"), 2, 0}, {draw("...", "...", "..#"), draw("#"), 1, 2},
		{draw("#.#"), draw("##."), 1, 2}, {draw("#..#"), draw("##"), 4, 2}, {draw("#.#.#"), draw(".#.#."), 0, 5}, {draw("#.#.#"), draw(".#.#."), 1, 1},
	} {
		n, e := glyph.Distance(c.a, c.b, c.reach)
		wantInt(t, picture(c.a)+" to"+picture(c.b), n, e, c.want)
		n, e = glyph.Distance(c.b, c.a, c.reach)
		wantInt(t, picture(c.b)+" to"+picture(c.a), n, e, c.want)
	}
}

// TestDistanceByPlaces has heights around multiples of 64, too, as that many rows are compared at once.
func TestDistanceByPlaces(t *testing.T) {
	var l []api.Bits
	for i, size := range [][2]int{{1, 1}, {7, 1}, {1, 9}, {5, 5}, {6, 63}, {4, 64}, {5, 65}, {3, 67}, {2, 128}, {3, 130}, {2, 200}, {70, 3}} {
		l = append(l, mixedBits(i, size[0], size[1], 30+40*(i%5)))
	}
	for _, a := range l {
		for _, b := range l {
			for reach := range 5 {
				n, e := glyph.Distance(a, b, reach)
				wantInt(t, "Distance", n, e, distanceByPlaces(a, b, reach))
			}
		}
	}
}

func TestDistanceErrors(t *testing.T) {
	for _, reach := range wrongNumbers(0, 4) {
		n, e := glyph.Distance(draw("#"), draw("#."), reach)
		failInt(t, "Distance", n, e, api.ErrRange)
		l, e := glyph.Match(tiny(), draw("#"), reach)
		failList(t, "Match", l, e, api.ErrRange)
	}
	// The error of the first page comes first, whatever it is.
	form := api.Bits{W: 1, H: 1}
	n, e := glyph.Distance(form, api.Bits{}, 9)
	failInt(t, "Distance", n, e, api.ErrForm)
	n, e = glyph.Distance(api.Bits{}, form, 9)
	failInt(t, "Distance", n, e, api.ErrRange)
	n, e = glyph.Distance(draw("#"), form, 9)
	failInt(t, "Distance", n, e, api.ErrForm)
}

func TestMatch(t *testing.T) {
	f := tiny()
	for _, c := range []struct {
		shape api.Bits
		reach int
		want  []api.Match
	}{
		{draw("#", "#", "#", "#", "#"), 0, []api.Match{{Text: "l"}, {Text: "i", Distance: 1}, {Text: "ll", Distance: 6}, {Text: "o", Distance: 7}}},
		{draw("#", ".", "#", "#", "#"), 0, []api.Match{{Text: "i"}, {Text: "l", Distance: 1}, {Text: "ll", Distance: 7}, {Text: "o", Distance: 8}}},
		{draw("."), 4, []api.Match{{Text: "i", Distance: 4}, {Text: "l", Distance: 5}, {Text: "o", Distance: 10}, {Text: "ll", Distance: 11}}},
		// With reach 1 the stroke goes up onto that of the o.
		{draw("...", "...", "###", "#.#", "#.#"), 1, []api.Match{{Text: "o", Distance: 3}, {Text: "i", Distance: 5}, {Text: "l", Distance: 6}, {Text: "ll", Distance: 6}}},
		{draw("#.."), 0, []api.Match{{Text: "i", Distance: 3}, {Text: "l", Distance: 4}, {Text: "ll", Distance: 10}, {Text: "o", Distance: 11}}},
		// Equal ones are in the order of the font.
		{draw("...#"), 0, []api.Match{{Text: "i", Distance: 5}, {Text: "l", Distance: 6}, {Text: "o", Distance: 11}, {Text: "ll", Distance: 12}}},
	} {
		l, e := glyph.Match(f, c.shape, c.reach)
		wantList(t, "Match"+picture(c.shape), l, e, c.want)
	}
	slices.Reverse(f.Letters)
	l, e := glyph.Match(f, draw("...", "...", "###", "#.#", "#.#"), 1)
	wantList(t, "Match", l, e, []api.Match{{Text: "o", Distance: 3}, {Text: "i", Distance: 5}, {Text: "ll", Distance: 6}, {Text: "l", Distance: 6}})
}

// matchByPlaces is P87 for Match: it looks for each distance, from the least on, in the whole font.
func matchByPlaces(f api.Font, b api.Bits, reach int) []api.Match {
	var l []api.Match
	for d := 0; len(l) < len(f.Letters); d++ {
		for _, letter := range f.Letters {
			if distanceByPlaces(letter.Bits, b, reach) == d {
				l = append(l, api.Match{Text: letter.Text, Distance: d})
			}
		}
	}
	return l
}

func TestMatchByPlaces(t *testing.T) {
	for _, f := range mixedFonts()[:6] {
		for i, size := range [][2]int{{1, 1}, {3, f.Height}, {6, f.Height}, {9, f.Height + 1}, {5, 66}} {
			for _, reach := range []int{0, 1, 4} {
				b := mixedBits(i, size[0], size[1], 120)
				l, e := glyph.Match(f, b, reach)
				wantList(t, f.Name, l, e, matchByPlaces(f, b, reach))
			}
		}
	}
}

func TestApart(t *testing.T) {
	two := func(a, b api.Bits) api.Font {
		return api.Font{Name: "a", Height: a.H, Gap: 1, Space: 2, Letters: []api.Letter{{Text: "x", Bits: a}, {Text: "y", Bits: b}}}
	}
	for _, c := range []struct {
		font api.Font
		n    int
		a, b string
	}{
		{tiny(), 1, "i", "l"}, {two(draw("#"), draw("#")), 0, "x", "y"}, {two(draw("#"), draw("####")), 3, "x", "y"},
		// Nothing is moved.
		{two(draw("##", ".."), draw("..", "##")), 4, "x", "y"},
	} {
		if n, a, b, e := glyph.Apart(c.font); n != c.n || a != c.a || b != c.b || e != api.OK {
			t.Error(c.font, n, a, b, e)
		}
	}
	// Of equal pairs it is the first one: by its first letter, then by its second one.
	f := tiny()
	f.Letters = []api.Letter{letter("far", "####", "####", "####", "####", "####"), letter("b", "#", "#", ".", ".", "."),
		letter("a", "#", "#", "#", ".", "."), letter("c", "#", "#", "#", "#", "."), letter("d", "#", "#", ".", "#", ".")}
	if n, a, b, e := glyph.Apart(f); n != 1 || a != "b" || b != "a" || e != api.OK {
		t.Error(n, a, b, e)
	}
	f.Letters[2], f.Letters[3] = f.Letters[3], f.Letters[2]
	if n, a, b, e := glyph.Apart(f); n != 1 || a != "b" || b != "a" || e != api.OK {
		t.Error(n, a, b, e)
	}
	f.Letters[4], f.Letters[1] = f.Letters[1], f.Letters[4]
	if n, a, b, e := glyph.Apart(f); n != 1 || a != "d" || b != "c" || e != api.OK {
		t.Error(n, a, b, e)
	}
	f.Letters = f.Letters[:1]
	if n, a, b, e := glyph.Apart(f); n != 0 || a != "" || b != "" || e != api.ErrEmpty {
		t.Error(n, a, b, e)
	}
}

func TestApartByPlaces(t *testing.T) {
	for _, f := range append(mixedFonts()[2:], tiny()) {
		least, a, b := mostInt, "", ""
		for i, x := range f.Letters {
			for _, y := range f.Letters[i+1:] {
				if d := distanceByPlaces(x.Bits, y.Bits, 0); d < least {
					least, a, b = d, x.Text, y.Text
				}
			}
		}
		if n, x, y, e := glyph.Apart(f); n != least || x != a || y != b || e != api.OK {
			t.Error(f.Name, n, x, y, e, least, a, b)
		}
	}
}

// TestDiffer lays shapes on all places of a page in which they lie.
func TestDiffer(t *testing.T) {
	ground := mixedBits(1, 12, 150, 128)
	whole := glyph.ShapeOf(ground)
	for _, h := range []int{1, 2, 63, 64, 65, 127, 128, 129, 150} {
		b := mixedBits(h, 5, h, 128)
		s := glyph.ShapeOf(b)
		for y := range 150 - h + 1 {
			rows := whole.Below(y)
			for x := range 12 - 5 + 1 {
				n := 0
				for i, ink := range b.P {
					if ink != at(ground, x+i%5, y+i/5) {
						n++
					}
				}
				if got := s.Differ(rows, x); got != n {
					t.Fatal(h, x, y, got, n)
				}
			}
		}
	}
}
