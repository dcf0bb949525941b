package glyph_test

import (
	"slices"
	"testing"

	"flatbed/api"
	"flatbed/glyph"
)

// piecesByColumns is P88 for Pieces, word by word.
func piecesByColumns(b api.Bits) []api.Box {
	var l []api.Box
	before := false
	for x := range b.W {
		ink := false
		for y := range b.H {
			ink = ink || at(b, x, y)
		}
		if ink && !before {
			l = append(l, api.Box{X: x, H: b.H})
		}
		if ink {
			l[len(l)-1].W++
		}
		before = ink
	}
	return l
}

func TestPieces(t *testing.T) {
	for _, c := range []struct {
		page api.Bits
		want []api.Box
	}{
		{draw("."), nil}, {draw("...", "..."), nil}, {draw("#"), []api.Box{{W: 1, H: 1}}},
		{draw("...", ".#.", "..."), []api.Box{{X: 1, W: 1, H: 3}}},
		// Columns side by side are a piece, also if their ink does not touch.
		{draw("#....", "..#..", ".#.#."), []api.Box{{W: 4, H: 3}}},
		{draw("#.##.#", "......", "..#..."), []api.Box{{W: 1, H: 3}, {X: 2, W: 2, H: 3}, {X: 5, W: 1, H: 3}}},
	} {
		l, e := glyph.Pieces(c.page)
		wantList(t, "Pieces"+picture(c.page), l, e, c.want)
	}
	for seed := range 40 {
		b := mixedBits(seed, 1+seed*3, 1+seed%7, 10+seed)
		l, e := glyph.Pieces(b)
		wantList(t, "Pieces"+picture(b), l, e, piecesByColumns(b))
	}
}

// readByPromise is P88 for Read, word by word.
func readByPromise(f api.Font, b api.Bits, most int) []api.Seen {
	var l []api.Seen
	for i, box := range piecesByColumns(b) {
		if i > 0 {
			end := l[len(l)-1].Box.X + l[len(l)-1].Box.W
			if between := box.X - end; between >= (f.Gap+f.Space+1)/2 {
				l = append(l, api.Seen{Text: " ", Box: api.Box{X: end, W: between, H: b.H}, Second: -1})
			}
		}
		best, second, text := -1, -1, ""
		for _, letter := range f.Letters {
			if letter.Bits.W < box.W-2 || letter.Bits.W > box.W+2 {
				continue
			}
			d := distanceByPlaces(part(b, box), letter.Bits, 1)
			if best < 0 || d < best {
				best, second, text = d, best, letter.Text
			} else if second < 0 || d < second {
				second = d
			}
		}
		if best < 0 || best*1000 > most*f.Height*box.W {
			best, second, text = -1, -1, "?"
		}
		l = append(l, api.Seen{Text: text, Box: box, Distance: best, Second: second})
	}
	return l
}

func TestRead(t *testing.T) {
	f := tiny()
	box := func(x, w int) api.Box { return api.Box{X: x, W: w, H: 5} }
	for _, c := range []struct {
		page api.Bits
		most int
		want []api.Seen
	}{
		{draw("...", "...", "...", "...", "..."), 1000, nil},
		{draw("#", "#", "#", "#", "#"), 0, []api.Seen{{Text: "l", Box: box(0, 1), Second: 1}}},
		// A gap of (1 + 3 + 1) / 2 columns is a space, a narrower one is none; nor is what is empty at both ends.
		{
			draw("...#.#..#......", "...#....#......", "...#.#..#......", "...#.#..#......", "...#.#..#......"), 0,
			[]api.Seen{
				{Text: "l", Box: box(3, 1), Second: 1}, {Text: "i", Box: box(5, 1), Second: 1},
				{Text: " ", Box: box(6, 2), Second: -1}, {Text: "l", Box: box(8, 1), Second: 1},
			},
		},
		// It stands one row higher than the letter.
		{draw("###", "#.#", "#.#", "###", "..."), 0, []api.Seen{{Text: "o", Box: box(0, 3), Second: 3}}},
		// A dot is nearer to the letter with less ink.
		{draw("....", "....", "..#.", "....", "...."), 1000, []api.Seen{{Text: "i", Box: box(2, 1), Distance: 3, Second: 4}}},
		// A distance of 5 in 5 times 2 pixels are 500 thousandths.
		{plain(2, 5, true), 500, []api.Seen{{Text: "l", Box: box(0, 2), Distance: 5, Second: 6}}},
		{plain(2, 5, true), 499, []api.Seen{{Text: "?", Box: box(0, 2), Distance: -1, Second: -1}}},
		// Letters of 1 column are too narrow for pieces of 4, as those of 3 are for pieces of 6.
		{plain(4, 5, true), 1000, []api.Seen{{Text: "ll", Box: box(0, 4), Distance: 9, Second: 10}}},
		{plain(6, 5, true), 1000, []api.Seen{{Text: "?", Box: box(0, 6), Distance: -1, Second: -1}}},
	} {
		l, e := glyph.Read(f, c.page, c.most)
		wantList(t, "Read"+picture(c.page), l, e, c.want)
	}
}

// TestReadEqual has letters that look alike: the first one is seen, and the second one is as near.
func TestReadEqual(t *testing.T) {
	f := least()
	l, e := glyph.Read(f, draw("#"), 0)
	wantList(t, "one letter", l, e, []api.Seen{{Text: "!", Box: api.Box{W: 1, H: 1}, Second: -1}})
	f.Letters = []api.Letter{letter("wide", "####"), letter("x", "##"), letter("?", "#"), letter("!", "#")}
	l, e = glyph.Read(f, draw("#"), 1000)
	wantList(t, "two letters", l, e, []api.Seen{{Text: "?", Box: api.Box{W: 1, H: 1}}})
	l, e = glyph.Read(f, draw("###"), 1000)
	wantList(t, "between", l, e, []api.Seen{{Text: "wide", Box: api.Box{W: 3, H: 1}, Distance: 1, Second: 1}})
	l, e = glyph.Read(f, draw("#####"), 1000)
	wantList(t, "only one that is not too narrow", l, e, []api.Seen{{Text: "wide", Box: api.Box{W: 5, H: 1}, Distance: 1, Second: -1}})
	f.Letters[2], f.Letters[3] = f.Letters[3], f.Letters[2]
	l, e = glyph.Read(f, draw("#"), 0)
	wantList(t, "the other order", l, e, []api.Seen{{Text: "!", Box: api.Box{W: 1, H: 1}}})
}

// TestReadSpaces has gaps of all widths around the least one that is a space.
func TestReadSpaces(t *testing.T) {
	for _, c := range [][3]int{{1, 2, 2}, {1, 3, 2}, {1, 4, 3}, {2, 3, 3}, {2, 4, 3}, {3, 9, 6}, {16, 17, 17}, {1, 64, 33}, {16, 64, 40}} {
		f := least()
		f.Gap, f.Space = c[0], c[1]
		for wide := 1; wide < 70; wide++ {
			b := plain(wide+2, 1, false)
			b.P[0], b.P[wide+1] = true, true
			want := "!!"
			if wide >= c[2] {
				want = "! !"
			}
			if l, e := glyph.Read(f, b, 0); glyph.Text(l) != want || e != api.OK {
				t.Error(c, wide, l, e)
			}
		}
	}
}

func TestReadByPromise(t *testing.T) {
	for i, f := range mixedFonts()[:6] {
		var pages []api.Bits
		for j := range 4 {
			pages = append(pages, mixedBits(i+j, 60, f.Height, 20+30*j))
		}
		for j, text := range mixedTexts(f)[:3] {
			b, _ := setByRows(f, text)
			for k := range b.P {
				b.P[k] = b.P[k] != (number(j, k) < 5+20*j)
			}
			pages = append(pages, b)
		}
		for _, b := range pages {
			for _, most := range []int{0, 60, 150, 400, 1000} {
				l, e := glyph.Read(f, b, most)
				wantList(t, f.Name+picture(b), l, e, readByPromise(f, b, most))
			}
		}
	}
}

func TestReadErrors(t *testing.T) {
	f := tiny()
	for _, h := range []int{1, 4, 6, 4000} {
		for _, most := range []int{0, -1, 1001} {
			l, e := glyph.Read(f, plain(3, h, true), most)
			failList(t, "height", l, e, api.ErrConflict)
		}
	}
	for _, most := range wrongNumbers(0, 1000) {
		for _, ink := range []bool{false, true} {
			l, e := glyph.Read(f, plain(3, 5, ink), most)
			failList(t, "most", l, e, api.ErrRange)
		}
	}
}

// TestReadOfSet has fonts whose letters are told apart: the text comes back.
func TestReadOfSet(t *testing.T) {
	for _, f := range append(mixedFonts(), greatest()) {
		for _, text := range mixedTexts(f) {
			b, ok := setByRows(f, text)
			if !ok || b.W > 4000 {
				continue
			}
			l, e := glyph.Read(f, b, 0)
			if e != api.OK || glyph.Text(l) != text {
				t.Errorf("%s %q: read %q, error %d", f.Name, text, glyph.Text(l), e)
			}
			if d := glyph.Doubt(l, 0); len(d) != 0 {
				t.Error(f.Name, text, d)
			}
		}
	}
}

// TestNoisyLetters turns fewer pixels over in each letter than half of Apart: it is still nearest to itself.
func TestNoisyLetters(t *testing.T) {
	for _, f := range append(mixedFonts()[2:], greatest()) {
		n, _, _, e := glyph.Apart(f)
		if e != api.OK {
			t.Fatal(e)
		}
		for i, l := range f.Letters {
			b := api.Bits{W: l.Bits.W, H: l.Bits.H, P: slices.Clone(l.Bits.P)}
			for k := range (n - 1) / 2 {
				at := (k*7 + i) % len(b.P)
				b.P[at] = !l.Bits.P[at]
			}
			own, _ := glyph.Distance(l.Bits, b, 0)
			for j, other := range f.Letters {
				if d, e := glyph.Distance(other.Bits, b, 0); e != api.OK || j != i && other.Bits.W == b.W && d <= own {
					t.Error(f.Name, l.Text, other.Text, own, d, e)
				}
			}
		}
	}
}

func TestText(t *testing.T) {
	for want, l := range map[string][]api.Seen{
		"":              nil,
		"a":             {{Text: "a"}},
		"ll ?o\x00\xff": {{Text: "ll"}, {Text: " ", Second: -1}, {Text: "?", Distance: -1}, {Text: "o"}, {}, {Text: "\x00\xff"}},
	} {
		if text := glyph.Text(l); text != want {
			t.Errorf("%q; want %q", text, want)
		}
	}
	if text := glyph.Text(make([]api.Seen, 3)); text != "" {
		t.Errorf("%q", text)
	}
}

func TestDoubt(t *testing.T) {
	l := []api.Seen{
		{Text: "a", Distance: 3, Second: 5}, {Text: " ", Second: -1}, {Text: "?", Distance: -1, Second: -1}, {Text: "b", Second: -1},
		{Text: "c", Distance: 2, Second: 2}, {Text: "?", Distance: 1, Second: 9}, {Text: " ", Second: 0}, {Text: " ", Distance: -1, Second: -1},
		{Text: "d", Distance: 4, Second: 1}, {Text: "", Distance: -1, Second: 1000}, {Text: "  ", Distance: 0, Second: 3},
	}
	for most, want := range map[int][]int{
		-4: {2, 9}, -3: {2, 8, 9}, -1: {2, 8, 9}, 0: {2, 4, 8, 9}, 1: {2, 4, 8, 9}, 2: {0, 2, 4, 8, 9}, 3: {0, 2, 4, 8, 9, 10},
		7: {0, 2, 4, 8, 9, 10}, 8: {0, 2, 4, 5, 8, 9, 10}, mostInt: {0, 2, 4, 5, 8, 9, 10}, leastInt: {2, 9},
	} {
		wantList(t, "Doubt", glyph.Doubt(l, most), api.OK, want)
	}
	if len(glyph.Doubt(nil, 0)) != 0 || len(glyph.Doubt(l[3:4], mostInt)) != 0 {
		t.Error("Doubt of nothing")
	}
}

// TestDoubtLarge has differences that no int holds.
func TestDoubtLarge(t *testing.T) {
	for _, c := range []struct {
		distance, second, most int
		want                   bool
	}{
		{leastInt, mostInt, mostInt, false}, {leastInt, 0, mostInt, false}, {leastInt, 0, 0, false}, {leastInt, mostInt, leastInt, false},
		{leastInt + 1, 0, mostInt, true}, {leastInt + 1, 0, mostInt - 1, false}, {-2, mostInt, mostInt, false}, {-2, mostInt - 2, mostInt, true},
		{mostInt, 0, leastInt, false}, {mostInt, 0, leastInt + 1, true}, {mostInt, mostInt, 0, true}, {mostInt, mostInt, -1, false},
		{0, mostInt, mostInt, true}, {0, mostInt, mostInt - 1, false}, {leastInt, leastInt, mostInt, false}, {mostInt, leastInt, mostInt, false},
		{-5, 0, 4, false}, {-5, 0, 5, true}, {-5, 0, -1, false}, {-1, leastInt, leastInt, true}, {mostInt, mostInt - 1, -1, true},
	} {
		l := []api.Seen{{Text: "a", Distance: c.distance, Second: c.second}}
		if got := len(glyph.Doubt(l, c.most)) == 1; got != c.want {
			t.Error(c, got)
		}
	}
}
