package glyph_test

import (
	"slices"
	"strings"
	"testing"

	"flatbed/api"
	"flatbed/glyph"
)

func TestCheck(t *testing.T) {
	for _, f := range append(mixedFonts(), greatest()) {
		if e := glyph.Check(f); e != api.OK {
			t.Error(f.Name, f.Height, e)
		}
	}
	for _, c := range [][3]int{{1, 1, 2}, {64, 16, 64}, {1, 16, 17}, {64, 1, 64}, {33, 9, 10}} {
		f := least()
		f.Height, f.Gap, f.Space = c[0], c[1], c[2]
		f.Letters[0].Bits = plain(7, c[0], true)
		if e := glyph.Check(f); e != api.OK {
			t.Error(c, e)
		}
	}
	f := tiny()
	for _, text := range []string{"!", "~", "!~!~", "????", "a", "ab", "abc", "{=}", `\n`, "09"} {
		f.Letters[2].Text = text
		if e := glyph.Check(f); e != api.OK {
			t.Error(text, e)
		}
	}
}

// A fault makes a font wrong.
type fault struct {
	name  string
	spoil func(f *api.Font)
	want  api.Errno
}

// faults are in the order in which they are looked for. Those of letters are faults of the third one.
func faults() []fault {
	l := []fault{}
	add := func(name string, want api.Errno, spoil func(f *api.Font)) { l = append(l, fault{name, spoil, want}) }
	for _, name := range []string{"", "Tiny", "1a", "-", "a_b", "a b", "a\n", "\xe4", strings.Repeat("a", 41)} {
		add("name "+name, api.ErrName, func(f *api.Font) { f.Name = name })
	}
	for _, n := range append(wrongNumbers(1, 64), 0) {
		add("Height", api.ErrRange, func(f *api.Font) { f.Height = n })
	}
	for _, n := range append(wrongNumbers(1, 16), 0) {
		add("Gap", api.ErrRange, func(f *api.Font) { f.Gap = n })
	}
	for _, n := range append(wrongNumbers(1, 64), 0) {
		add("Space", api.ErrRange, func(f *api.Font) { f.Space = n })
	}
	add("Space as Gap", api.ErrOrder, func(f *api.Font) { f.Gap, f.Space = 3, 3 })
	add("Space less than Gap", api.ErrOrder, func(f *api.Font) { f.Gap, f.Space = 16, 1 })
	add("no letters", api.ErrEmpty, func(f *api.Font) { f.Letters = nil })
	add("empty letters", api.ErrEmpty, func(f *api.Font) { f.Letters = f.Letters[:0] })
	add("201 letters", api.ErrLarge, func(f *api.Font) { f.Letters = append(greatest().Letters, f.Letters...)[:201] })
	return append(l, letterFaults()...)
}

func letterFaults() []fault {
	l := []fault{}
	add := func(name string, want api.Errno, spoil func(l *api.Letter)) {
		l = append(l, fault{name, func(f *api.Font) {
			if len(f.Letters) > 2 {
				spoil(&f.Letters[2])
			}
		}, want})
	}
	for _, text := range wrongLetterTexts() {
		add("text "+text, api.ErrForm, func(l *api.Letter) { l.Text = text })
	}
	add("text twice", api.ErrTwice, func(l *api.Letter) { l.Text = "i" })
	for _, w := range []int{0, -1, 4001, mostInt, leastInt} {
		add("W", api.ErrRange, func(l *api.Letter) { l.Bits.W = w })
		add("H", api.ErrRange, func(l *api.Letter) { l.Bits.H = w })
	}
	add("pixels", api.ErrLarge, func(l *api.Letter) { l.Bits.W, l.Bits.H = 4000, 263 })
	add("too few", api.ErrForm, func(l *api.Letter) { l.Bits.P = l.Bits.P[1:] })
	add("too many", api.ErrForm, func(l *api.Letter) { l.Bits.P = append(l.Bits.P, true, true) })
	add("lower", api.ErrConflict, func(l *api.Letter) { l.Bits = plain(65, 4, false) })
	add("higher", api.ErrConflict, func(l *api.Letter) { l.Bits = plain(65, 6, false) })
	add("turned", api.ErrConflict, func(l *api.Letter) { l.Bits = plain(5, 3, false) })
	add("wide", api.ErrLarge, func(l *api.Letter) { l.Bits = plain(65, 5, false) })
	add("wider", api.ErrLarge, func(l *api.Letter) { l.Bits = plain(4000, 5, true) })
	add("no ink", api.ErrForm, func(l *api.Letter) { l.Bits = plain(1, 5, false) })
	add("left", api.ErrForm, func(l *api.Letter) { l.Bits = draw("....", ".###", ".#.#", ".#.#", ".###") })
	add("right", api.ErrForm, func(l *api.Letter) { l.Bits = draw("....", "###.", "#.#.", "#.#.", "###.") })
	add("gap", api.ErrForm, func(l *api.Letter) { l.Bits = draw("#.#", "#.#", "#.#", "#.#", "#.#") })
	return l
}

// eachBadFont gives the tiny font with each fault alone.
func eachBadFont(visit func(name string, f api.Font, want api.Errno)) {
	for _, c := range faults() {
		f := tiny()
		c.spoil(&f)
		visit(c.name, f, c.want)
	}
}

func TestCheckErrors(t *testing.T) {
	eachBadFont(func(name string, f api.Font, want api.Errno) {
		if e := glyph.Check(f); e != want {
			t.Errorf("%q: error %d, want %d", name, e, want)
		}
	})
}

// TestCheckOrder has two faults at a time: the one that is mentioned first counts, also if the other is made later.
func TestCheckOrder(t *testing.T) {
	l := faults()
	for i, first := range l {
		for _, second := range l[i+1:] {
			f := tiny()
			second.spoil(&f)
			first.spoil(&f)
			g := tiny()
			first.spoil(&g)
			second.spoil(&g)
			// Where one fault takes the place of the other, there is only one.
			if !sameFont(f, g) {
				continue
			}
			if e := glyph.Check(f); e != first.want {
				t.Errorf("%q and %q: error %d, want %d", first.name, second.name, e, first.want)
			}
		}
	}
}

// TestCheckLetters has a fault in two letters: that of the first one counts, whatever it is.
func TestCheckLetters(t *testing.T) {
	for _, first := range letterFaults() {
		for _, second := range letterFaults() {
			f := tiny()
			second.spoil(&f)
			f.Letters = slices.Insert(f.Letters, 2, letter("x", "#", "#", "#", "#", "#"))
			first.spoil(&f)
			if e := glyph.Check(f); e != first.want {
				t.Errorf("%q ahead of %q: error %d, want %d", first.name, second.name, e, first.want)
			}
		}
	}
}

func TestLetter(t *testing.T) {
	for _, f := range append(mixedFonts(), greatest()) {
		for _, want := range f.Letters {
			if l, e := glyph.Letter(f, want.Text); e != api.OK || !sameLetter(l, want) {
				t.Error(f.Name, want.Text, l, e)
			}
		}
		for _, text := range append(wrongLetterTexts(), "I", "x", "li", "lll", "?", "i ") {
			if l, e := glyph.Letter(f, text); e != api.ErrNone || !sameLetter(l, api.Letter{}) {
				t.Errorf("%s %q: %v %d", f.Name, text, l, e)
			}
		}
	}
}

func TestIsVisible(t *testing.T) {
	for text, want := range map[string]bool{
		"a": true, "!~": true, "abcdef": true, "": false, " ": false, "a b": false, "\x7f": false, "a\x00": false, "ä": false, "a\n": false, "\xff": false,
	} {
		if glyph.IsVisible(text) != want {
			t.Errorf("%q", text)
		}
	}
}
