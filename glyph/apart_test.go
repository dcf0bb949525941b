package glyph_test

import (
	"slices"
	"strings"
	"testing"

	"flatbed/api"
	"flatbed/glyph"
)

// spare fills the unused capacity of a list, so that what is written there is seen.
func spare[T any](l []T, with T) []T { return append(slices.Clone(l), with, with, with)[:len(l)] }

func spareBits(b api.Bits) api.Bits { return api.Bits{W: b.W, H: b.H, P: spare(b.P, true)} }

func spareFont() api.Font {
	f := tiny()
	for i := range f.Letters {
		f.Letters[i].Bits = spareBits(f.Letters[i].Bits)
	}
	f.Letters = spare(f.Letters, letter("x", "#"))
	return f
}

func whole[T any](l []T) []T { return slices.Clone(l[:cap(l)]) }

// wholeFont is a font with all that its lists have, also behind their ends.
func wholeFont(f api.Font) api.Font {
	f.Letters = whole(f.Letters)
	for i := range f.Letters {
		f.Letters[i].Bits.P = whole(f.Letters[i].Bits.P)
	}
	return f
}

// spoil overwrites a result, and its unused capacity.
func spoil[T any](l []T, with T) {
	l = l[:cap(l)]
	for i := range l {
		l[i] = with
	}
}

func turnOver(b api.Bits) {
	for i, ink := range b.P {
		b.P[i] = !ink
	}
	p := b.P[len(b.P):cap(b.P)]
	for i, ink := range p {
		p[i] = !ink
	}
}

// TestArgumentsStay overwrites all results, and calls again: no argument changes, and no later result.
func TestArgumentsStay(t *testing.T) {
	f, b := spareFont(), spareBits(draw("#.#.##", "#.#..#", "#.#.##", "#...#.", "#.#..#"))
	samples := spare([]api.Bits{spareBits(f.Letters[1].Bits), spareBits(f.Letters[0].Bits), spareBits(f.Letters[1].Bits)}, draw("#"))
	texts := spare([]string{"lo", "", "il i"}, "x")
	seen, e := glyph.Read(f, b, 1000)
	if e != api.OK {
		t.Fatal(e)
	}
	seen = spare(seen, api.Seen{Text: "?", Distance: -1})
	oldFont, oldBits, oldTexts, oldSeen := wholeFont(f), whole(b.P), whole(texts), whole(seen)
	var oldSamples []api.Bits
	for _, s := range whole(samples) {
		oldSamples = append(oldSamples, api.Bits{W: s.W, H: s.H, P: whole(s.P)})
	}
	first := results(f, b, samples, texts, seen)
	for range 2 {
		if again := results(f, b, samples, texts, seen); again != first {
			t.Error("a result comes out otherwise the next time", first, again)
		}
	}
	if !sameFont(oldFont, wholeFont(f)) || !slices.Equal(oldBits, whole(b.P)) || !slices.Equal(oldTexts, whole(texts)) || !slices.Equal(oldSeen, whole(seen)) {
		t.Error("an argument was changed")
	}
	for i, s := range whole(samples) {
		if !sameBits(oldSamples[i], api.Bits{W: s.W, H: s.H, P: whole(s.P)}) {
			t.Error("a sample was changed", i)
		}
	}
}

// results writes all results into a text, and overwrites them.
func results(f api.Font, b api.Bits, samples []api.Bits, texts []string, seen []api.Seen) string {
	var text strings.Builder
	add := func(b api.Bits, e api.Errno) {
		text.WriteString(picture(b) + string(rune('a'+e)))
		turnOver(b)
	}
	for _, l := range f.Letters {
		x, e := glyph.Letter(f, l.Text)
		add(x.Bits, e)
	}
	for _, line := range []string{"i", "ll", "lo il"} {
		add(glyph.Set(f, line))
		glyph.Width(f, line)
		l, _ := glyph.Fit(f, line, 5)
		text.WriteString(strings.Join(l, "/"))
		spoil(l, "")
	}
	add(glyph.SetLines(f, texts, 1))
	add(glyph.SetLines(f, texts[:1], 0))
	add(glyph.Noise(b, 1, 0))
	add(glyph.Noise(b, 1, 300))
	for _, name := range []string{"new", "ll"} {
		for n := 1; n <= len(samples); n++ {
			g, e := glyph.Learn(f, name, samples[:n])
			printed, _ := glyph.Print(g)
			text.WriteString(printed + string(rune('a'+e)))
			for _, l := range g.Letters {
				turnOver(l.Bits)
			}
			spoil(g.Letters, api.Letter{})
		}
	}
	glyph.Apart(f)
	glyph.Distance(b, b, 2)
	matches, _ := glyph.Match(f, b, 2)
	boxes, _ := glyph.Pieces(b)
	read, _ := glyph.Read(f, b, 1000)
	for _, m := range matches {
		text.WriteString(m.Text + string(rune('a'+m.Distance)))
	}
	for _, x := range boxes {
		text.WriteString(string(rune('a'+x.X)) + string(rune('a'+x.W)))
	}
	text.WriteString(glyph.Text(read) + glyph.Text(seen))
	for _, n := range glyph.Doubt(seen, 2) {
		text.WriteString(string(rune('a' + n)))
	}
	spoil(matches, api.Match{})
	spoil(boxes, api.Box{})
	spoil(read, api.Seen{})
	return text.String()
}

// TestLettersShareNothing overwrites the pixels of one letter at a time: the others stay.
func TestLettersShareNothing(t *testing.T) {
	f := tiny()
	sample := f.Letters[2].Bits
	for _, build := range []func() (api.Font, api.Errno){
		func() (api.Font, api.Errno) { return glyph.Learn(f, "new", []api.Bits{sample}) },
		func() (api.Font, api.Errno) { return glyph.Learn(f, "ll", []api.Bits{sample, sample}) },
		func() (api.Font, api.Errno) {
			g, _, e := glyph.Parse(tinyText)
			return g, e
		},
	} {
		want, e := build()
		if e != api.OK {
			t.Fatal(e)
		}
		for i := range want.Letters {
			g, _ := build()
			turnOver(g.Letters[i].Bits)
			g.Letters[i] = want.Letters[i]
			if !sameFont(g, want) {
				t.Error("letters share memory", i)
			}
		}
	}
}
