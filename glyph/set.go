package glyph

import (
	"slices"
	"strings"

	"flatbed/api"
	"flatbed/page"
)

const (
	maxLead  = 64
	maxLines = 200
	space    = " "
)

// A placed letter stands in its line from the column x on.
type placed struct {
	x    int
	bits api.Bits
}

// A lineup is a line of letters side by side; an empty one is a line without ink.
type lineup struct {
	width   int
	letters []placed
}

// Width tells how wide a text is.
func Width(f api.Font, text string) (int, api.Errno) {
	l, e := lineOf(f, text)
	return l.width, e
}

// Set sets a text in the letters of a font.
func Set(f api.Font, text string) (api.Bits, api.Errno) {
	l, e := lineOf(f, text)
	if e != api.OK {
		return api.Bits{}, e
	}
	return stack([]lineup{l}, f.Height, 0)
}

func lineOf(f api.Font, text string) (lineup, api.Errno) {
	if e := Check(f); e != api.OK {
		return lineup{}, e
	}
	return liner(f)(text)
}

// SetLines sets lines one below the other, with lead rows between.
func SetLines(f api.Font, lines []string, lead int) (api.Bits, api.Errno) {
	if e := Check(f); e != api.OK {
		return api.Bits{}, e
	}
	if page.Outside(lead, 0, maxLead) {
		return api.Bits{}, api.ErrRange
	}
	if !slices.ContainsFunc(lines, func(text string) bool { return text != "" }) {
		return api.Bits{}, api.ErrEmpty
	}
	if len(lines) > maxLines {
		return api.Bits{}, api.ErrLarge
	}
	set := liner(f)
	rows := make([]lineup, len(lines))
	for i, text := range lines {
		if text == "" {
			continue
		}
		l, e := set(text)
		if e != api.OK {
			return api.Bits{}, e
		}
		rows[i] = l
	}
	return stack(rows, f.Height, lead)
}

// stack makes a page of lines, each at the left, with lead rows between.
func stack(l []lineup, height, lead int) (api.Bits, api.Errno) {
	width, step := 0, height+lead
	for _, row := range l {
		width = max(width, row.width)
	}
	b, e := page.Blank(width, len(l)*step-lead)
	if e != api.OK {
		return api.Bits{}, e
	}
	for i, row := range l {
		for _, letter := range row.letters {
			page.Put(b, letter.bits, letter.x, i*step)
		}
	}
	return b, api.OK
}

// Fit breaks a text into lines that are at most most wide, as far as its words permit.
func Fit(f api.Font, text string, most int) ([]string, api.Errno) {
	if e := Check(f); e != api.OK {
		return nil, e
	}
	words, e := speller(f)(text)
	if e != api.OK {
		return nil, e
	}
	if page.Outside(most, 1, api.MaxSide) {
		return nil, api.ErrRange
	}
	var lines []string
	width := 0
	for i, word := range strings.Split(text, space) {
		wide := placeWord(f, words[i], 0).width
		if i > 0 && width+f.Space+wide <= most {
			lines[len(lines)-1] += space + word
			width += f.Space + wide
		} else {
			lines = append(lines, word)
			width = wide
		}
	}
	return lines, api.OK
}

// liner returns a function that sets one line in the letters of a font, if it goes on a page.
func liner(f api.Font) func(text string) (lineup, api.Errno) {
	spell := speller(f)
	return func(text string) (lineup, api.Errno) {
		words, e := spell(text)
		if e != api.OK {
			return lineup{}, e
		}
		var l lineup
		for i, word := range words {
			if i > 0 {
				l.width += f.Space
			}
			behind := placeWord(f, word, l.width)
			l.letters = append(l.letters, behind.letters...)
			l.width = behind.width
		}
		if e := page.CheckSize(l.width, f.Height); e != api.OK {
			return lineup{}, e
		}
		return l, api.OK
	}
}

// placeWord sets the letters of a word from the column x on; its width is where it ends.
func placeWord(f api.Font, word []api.Bits, x int) lineup {
	l := lineup{width: x}
	for i, bits := range word {
		if i > 0 {
			l.width += f.Gap
		}
		l.letters = append(l.letters, placed{l.width, bits})
		l.width += bits.W
	}
	return l
}

// speller returns a function that spells a text by the letters of a font: for each word the shapes of its letters.
func speller(f api.Font) func(text string) ([][]api.Bits, api.Errno) {
	shapes := map[string]api.Bits{}
	for _, l := range f.Letters {
		shapes[l.Text] = l.Bits
	}
	return func(text string) ([][]api.Bits, api.Errno) {
		if text == "" {
			return nil, api.ErrEmpty
		}
		if len(text) > api.MaxLine {
			return nil, api.ErrLarge
		}
		words := strings.Split(text, space)
		if slices.Contains(words, "") {
			return nil, api.ErrForm
		}
		spelled := make([][]api.Bits, 0, len(words))
		for _, word := range words {
			letters, ok := spellWord(word, shapes)
			if !ok {
				return nil, api.ErrNone
			}
			spelled = append(spelled, letters)
		}
		return spelled, api.OK
	}
}

// spellWord takes the longest letter each time; it does not try a shorter one when the rest cannot be spelled.
func spellWord(word string, shapes map[string]api.Bits) ([]api.Bits, bool) {
	var letters []api.Bits
	for word != "" {
		n := min(len(word), maxSpelling)
		shape, ok := shapes[word[:n]]
		for !ok && n > 1 {
			n--
			shape, ok = shapes[word[:n]]
		}
		if !ok {
			return nil, false
		}
		letters = append(letters, shape)
		word = word[n:]
	}
	return letters, true
}
