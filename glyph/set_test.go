package glyph_test

import (
	"strconv"
	"strings"
	"testing"

	"flatbed/api"
	"flatbed/glyph"
)

// setByRows is P86 for Set, word by word: it looks for the longest letter among all of them, and writes row by row.
func setByRows(f api.Font, text string) (api.Bits, bool) {
	rows := make([]string, f.Height)
	add := func(b api.Bits, gap int) {
		for y := range rows {
			rows[y] += strings.Repeat(".", gap)
			for x := range b.W {
				rows[y] += map[bool]string{false: ".", true: "#"}[at(b, x, y)]
			}
		}
	}
	gap := 0
	for text != "" {
		if text[0] == ' ' {
			text, gap = text[1:], f.Space
			continue
		}
		var best api.Letter
		for _, l := range f.Letters {
			if strings.HasPrefix(text, l.Text) && len(l.Text) > len(best.Text) {
				best = l
			}
		}
		if best.Text == "" {
			return api.Bits{}, false
		}
		add(best.Bits, gap)
		text, gap = text[len(best.Text):], f.Gap
	}
	return draw(rows...), true
}

// below puts pages one below the other, with lead rows between.
func below(lead int, l ...api.Bits) api.Bits {
	w, h := 0, -lead
	for _, b := range l {
		w, h = max(w, b.W), h+b.H+lead
	}
	x := plain(w, h, false)
	top := 0
	for _, b := range l {
		for i, ink := range b.P {
			x.P[(top+i/b.W)*w+i%b.W] = ink
		}
		top += b.H + lead
	}
	return x
}

func TestSet(t *testing.T) {
	f := tiny()
	for text, want := range map[string]api.Bits{
		"i":   draw("#", ".", "#", "#", "#"),
		"il":  draw("#.#", "..#", "#.#", "#.#", "#.#"),
		"i l": draw("#...#", "....#", "#...#", "#...#", "#...#"),
		// The longest letter is taken from the left: of three it is the first two.
		"ll":    draw("#.#", "#.#", "#.#", "#.#", "###"),
		"lll":   draw("#.#.#", "#.#.#", "#.#.#", "#.#.#", "###.#"),
		"l l":   draw("#...#", "#...#", "#...#", "#...#", "#...#"),
		"lo il": draw("#.......#.#", "#.###.....#", "#.#.#...#.#", "#.#.#...#.#", "#.###...#.#"),
	} {
		b, e := glyph.Set(f, text)
		wantBits(t, text, b, e, want)
		n, e := glyph.Width(f, text)
		wantInt(t, text, n, e, want.W)
	}
	b, e := glyph.Set(least(), "! !!")
	wantBits(t, "least", b, e, draw("#..#.#"))
}

// TestSpelling has texts that could be spelled with a shorter letter: the longest one is taken, whatever follows it.
func TestSpelling(t *testing.T) {
	f := least()
	f.Letters = nil
	for i, text := range []string{"a", "bcd", "abc", "ab", "abcd", "aa"} {
		f.Letters = append(f.Letters, letter(text, strings.Repeat("#", 1+i)))
	}
	for text, want := range map[string]int{
		"a": 1, "ab": 4, "abc": 3, "abcd": 5, "aabcd": 6 + 1 + 2, "aaa": 6 + 1 + 1, "aaab": 6 + 1 + 4, "a abc": 1 + 2 + 3,
	} {
		n, e := glyph.Width(f, text)
		wantInt(t, text, n, e, want)
	}
	for _, text := range []string{"abcda b", "abcbc", "aab", "abb", "b", "abcda abcdb", "bcda bc", "A", "a\tb", "a\n", "a\x00"} {
		n, e := glyph.Width(f, text)
		failInt(t, text, n, e, api.ErrNone)
		b, e := glyph.Set(f, text)
		failBits(t, text, b, e, api.ErrNone)
	}
}

func TestSetByRows(t *testing.T) {
	for _, f := range mixedFonts() {
		for _, text := range mixedTexts(f) {
			want, ok := setByRows(f, text)
			b, e := glyph.Set(f, text)
			n, g := glyph.Width(f, text)
			switch {
			case !ok:
				t.Error("no text", f.Name, text)
			case want.W > 4000:
				failBits(t, text, b, e, api.ErrRange)
				failInt(t, text, n, g, api.ErrRange)
			default:
				wantBits(t, text, b, e, want)
				wantInt(t, text, n, g, want.W)
			}
		}
	}
}

// A wrong text has an error in any font that has only one letter, `!`. Each one has later errors, too.
func wrongTexts() map[string]api.Errno {
	return map[string]api.Errno{
		"":                              api.ErrEmpty,
		strings.Repeat("!", 201):        api.ErrLarge,
		" " + strings.Repeat("x", 200):  api.ErrLarge,
		strings.Repeat(" ", 1<<20):      api.ErrLarge,
		" ":                             api.ErrForm,
		"  ":                            api.ErrForm,
		" !":                            api.ErrForm,
		"! ":                            api.ErrForm,
		"!  !":                          api.ErrForm,
		"! !   ! !":                     api.ErrForm,
		"x  x":                          api.ErrForm,
		" x":                            api.ErrForm,
		strings.Repeat("x", 199) + " ":  api.ErrForm,
		"x":                             api.ErrNone,
		"! x":                           api.ErrNone,
		"!\t!":                          api.ErrNone,
		"!\n":                           api.ErrNone,
		"!\xa0!":                        api.ErrNone,
		"\"":                            api.ErrNone,
		strings.Repeat("!", 199) + "x":  api.ErrNone,
		strings.Repeat("x", 200):        api.ErrNone,
		strings.Repeat("! ", 99) + "x!": api.ErrNone,
	}
}

func TestSetErrors(t *testing.T) {
	wide := least()
	wide.Letters[0].Bits = plain(64, 1, true)
	for _, f := range []api.Font{least(), wide} {
		for text, want := range wrongTexts() {
			n, e := glyph.Width(f, text)
			failInt(t, text, n, e, want)
			b, e := glyph.Set(f, text)
			failBits(t, text, b, e, want)
			for _, most := range []int{1, 4000, 0, 4001} {
				l, e := glyph.Fit(f, text, most)
				failList(t, text, l, e, want)
			}
			if text != "" {
				b, e = glyph.SetLines(f, []string{"", "!", text, " "}, 0)
				failBits(t, text, b, e, want)
			}
		}
	}
}

// TestWideSet goes to the greatest width of a page, and beyond it.
func TestWideSet(t *testing.T) {
	f := greatest()
	f.Gap, f.Space = 15, 31
	f.Letters = []api.Letter{{Text: "w", Bits: plain(64, 64, true)}, {Text: "50", Bits: plain(50, 64, true)}, {Text: "51", Bits: plain(51, 64, true)}}
	fifty := strings.Repeat("w", 50)
	for text, want := range map[string]int{fifty: 3935, fifty + "50": 4000, strings.Repeat("50 ", 40) + "w": 40*81 + 64} {
		n, e := glyph.Width(f, text)
		wantInt(t, text, n, e, want)
		b, e := glyph.Set(f, text)
		x, _ := setByRows(f, text)
		wantBits(t, text, b, e, x)
		b, e = glyph.SetLines(f, []string{"w", text}, 3)
		wantBits(t, text, b, e, below(3, plain(64, 64, true), x))
	}
	for _, text := range []string{fifty + "51", fifty + "w", "50 " + fifty, strings.Repeat("w", 200), strings.Repeat("w ", 99) + "ww"} {
		n, e := glyph.Width(f, text)
		failInt(t, text, n, e, api.ErrRange)
		b, e := glyph.Set(f, text)
		failBits(t, text, b, e, api.ErrRange)
		b, e = glyph.SetLines(f, []string{"w", text, "x"}, 0)
		failBits(t, text, b, e, api.ErrRange)
	}
}

func TestSetLines(t *testing.T) {
	f := tiny()
	set := func(text string) api.Bits {
		if text == "" {
			return plain(1, 5, false)
		}
		b, _ := setByRows(f, text)
		return b
	}
	for _, lines := range [][]string{
		{"i"}, {"i", "ll"}, {"lo i", "o", "il"}, {"", "i"}, {"i", ""}, {"o", "", "", "i l i"}, {"", "", "o", ""}, {"i", "i", "i"},
	} {
		for _, lead := range []int{0, 1, 2, 7, 64} {
			var l []api.Bits
			for _, text := range lines {
				l = append(l, set(text))
			}
			b, e := glyph.SetLines(f, lines, lead)
			wantBits(t, strconv.Quote(strings.Join(lines, "/")), b, e, below(lead, l...))
		}
	}
	b, e := glyph.SetLines(least(), []string{"!", "", "! !"}, 1)
	wantBits(t, "least", b, e, draw("#...", "....", "....", "....", "#..#"))
}

func TestSetLinesErrors(t *testing.T) {
	f := least()
	for _, lead := range wrongNumbers(0, 64) {
		for _, lines := range [][]string{{"!"}, nil, {""}, make([]string, 201), {"!", "x"}} {
			b, e := glyph.SetLines(f, lines, lead)
			failBits(t, "SetLines", b, e, api.ErrRange)
		}
	}
	for _, n := range []int{0, 1, 2, 200, 201, 5000} {
		b, e := glyph.SetLines(f, make([]string, n), 64)
		failBits(t, "SetLines without text", b, e, api.ErrEmpty)
	}
	lines := make([]string, 201)
	lines[200] = "!"
	b, e := glyph.SetLines(f, lines, 0)
	failBits(t, "201 lines", b, e, api.ErrLarge)
	lines[200], lines[0] = "", " "
	b, e = glyph.SetLines(f, lines, 0)
	failBits(t, "201 lines", b, e, api.ErrLarge)
	b, e = glyph.SetLines(f, lines[:200], 0)
	failBits(t, "a space alone", b, e, api.ErrForm)
	b, e = glyph.SetLines(f, []string{"!", "x", " "}, 0)
	failBits(t, "the first bad line", b, e, api.ErrNone)
	b, e = glyph.SetLines(f, []string{"!", " ", "x"}, 0)
	failBits(t, "the first bad line", b, e, api.ErrForm)
}

// TestSetLinesSizes goes to the greatest height and number of pixels of a page, and beyond them.
func TestSetLinesSizes(t *testing.T) {
	f := greatest()
	f.Gap, f.Space = 16, 17
	f.Letters = []api.Letter{{Text: "w", Bits: plain(64, 64, true)}}
	for _, c := range []struct {
		count, wide, lead int
		want              api.Errno
	}{
		{1, 1, 64, api.OK}, {62, 1, 0, api.OK}, {63, 1, 0, api.ErrRange}, {32, 1, 62, api.OK}, {32, 1, 63, api.ErrRange}, {31, 1, 64, api.OK},
		{31, 1, 0, api.OK}, {200, 1, 64, api.ErrRange}, {200, 50, 64, api.ErrRange}, {4, 50, 0, api.OK}, {4, 50, 2, api.OK},
		{4, 50, 3, api.ErrLarge}, {5, 50, 0, api.ErrLarge}, {63, 50, 0, api.ErrRange}, {2, 51, 0, api.ErrRange},
	} {
		lines := make([]string, c.count)
		lines[c.count/2] = strings.Repeat("w", c.wide)
		b, e := glyph.SetLines(f, lines, c.lead)
		if c.want != api.OK {
			failBits(t, "SetLines", b, e, c.want)
		} else if e != api.OK || b.W != 80*c.wide-16 || b.H != c.count*(64+c.lead)-c.lead || len(b.P) != b.W*b.H {
			t.Error(c, b.W, b.H, e)
		}
	}
	lines := make([]string, 200)
	lines[199] = "!"
	b, e := glyph.SetLines(least(), lines, 19)
	if e != api.OK || b.H != 200+199*19 || !at(b, 0, b.H-1) {
		t.Error(b.W, b.H, e)
	}
}

// fitByTrying is P86 for Fit, word by word: it asks setByRows how wide a line would be.
func fitByTrying(f api.Font, text string, most int) []string {
	var l []string
	for _, word := range strings.Split(text, " ") {
		if len(l) > 0 {
			longer := l[len(l)-1] + " " + word
			if b, _ := setByRows(f, longer); b.W <= most {
				l[len(l)-1] = longer
				continue
			}
		}
		l = append(l, word)
	}
	return l
}

func TestFit(t *testing.T) {
	f := tiny()
	for _, c := range []struct {
		text string
		most int
		want string
	}{
		{"i", 1, "i"}, {"i", 4000, "i"}, {"o", 1, "o"}, {"oo", 2, "oo"},
		{"i i i", 1, "i/i/i"}, {"i i i", 4, "i/i/i"}, {"i i i", 5, "i i/i"}, {"i i i", 8, "i i/i"}, {"i i i", 9, "i i i"},
		{"oo ll io", 15, "oo ll/io"}, {"oo ll io", 12, "oo/ll io"}, {"oo ll io", 10, "oo/ll/io"}, {"oo ll io", 21, "oo ll io"},
		{"oo ll io", 20, "oo ll/io"},
		// A word that is too wide stands alone, also between others that go.
		{"i oooo i i", 5, "i/oooo/i i"}, {"oooo i i", 5, "oooo/i i"}, {"i i oooo", 5, "i i/oooo"}, {"oooo oooo", 14, "oooo/oooo"},
	} {
		l, e := glyph.Fit(f, c.text, c.most)
		wantList(t, c.text, l, e, strings.Split(c.want, "/"))
	}
	for _, most := range append(wrongNumbers(1, 4000), 0) {
		l, e := glyph.Fit(f, "lo il", most)
		failList(t, "Fit", l, e, api.ErrRange)
	}
}

func TestFitByTrying(t *testing.T) {
	for _, f := range mixedFonts() {
		for _, text := range mixedTexts(f) {
			for _, most := range []int{1, 2, 5, 9, 14, 20, 33, 50, 100, 300, 1000, 4000} {
				l, e := glyph.Fit(f, text, most)
				wantList(t, text, l, e, fitByTrying(f, text, most))
			}
		}
	}
}

// TestFitWide has a text that is wider than a page: that is no error here.
func TestFitWide(t *testing.T) {
	f := greatest()
	f.Letters = []api.Letter{{Text: "w", Bits: plain(64, 64, true)}}
	l, e := glyph.Fit(f, strings.Repeat("w", 200), 1)
	wantList(t, "one word", l, e, []string{strings.Repeat("w", 200)})
	ten := strings.TrimSuffix(strings.Repeat("w ", 10), " ")
	text := strings.TrimSuffix(strings.Repeat(ten+" ", 10), " ")
	for most, wide := range map[int]int{1: 1, 64: 1, 191: 1, 192: 2, 10*64 + 9*64: 10} {
		l, e := glyph.Fit(f, text, most)
		if e != api.OK || len(l) != 100/wide || len(l[0]) != 2*wide-1 || strings.Join(l, " ") != text {
			t.Error(most, l, e)
		}
	}
}
