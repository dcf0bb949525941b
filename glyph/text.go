package glyph

import (
	"strconv"
	"strings"

	"flatbed/api"
	"flatbed/page"
)

const (
	fontMark   = "font"
	letterMark = "letter"
	maxDigits  = 9
)

// Print writes a font as lines.
func Print(f api.Font) (string, api.Errno) {
	if e := Check(f); e != api.OK {
		return "", e
	}
	numbers := []string{strconv.Itoa(f.Height), strconv.Itoa(f.Gap), strconv.Itoa(f.Space)}
	var text strings.Builder
	text.WriteString(fontMark + space + f.Name + space + strings.Join(numbers, space) + "\n")
	for _, l := range f.Letters {
		rows, e := page.Print(l.Bits)
		if e != api.OK {
			return "", e
		}
		text.WriteString(letterMark + space + l.Text + "\n" + rows)
	}
	// With the limits that Check knows, no font is as long; the error stands here for the case that they rise.
	if text.Len() > api.MaxText {
		return "", api.ErrLarge
	}
	return text.String(), api.OK
}

// Parse reads what Print writes; the second result is the number of the line with ErrSyntax, otherwise 0.
func Parse(text string) (api.Font, int, api.Errno) {
	if len(text) > api.MaxText {
		return api.Font{}, 0, api.ErrLarge
	}
	r := reader{rest: text}
	f, ok := r.font()
	if !ok {
		return api.Font{}, r.at, api.ErrSyntax
	}
	if e := Check(f); e != api.OK {
		return api.Font{}, 0, e
	}
	return f, 0, api.OK
}

// A reader goes through the lines of a text: rest is what is left of it, at the number of the next line.
type reader struct {
	rest string
	at   int
}

// next goes on behind a line, if it ends with a line feed, and accept takes it. Otherwise at stays its number: that of
// the line that cannot stand there, or, if there is none any more, how many there were.
func (r *reader) next(accept func(line string) bool) bool {
	line, rest, ended := strings.Cut(r.rest, "\n")
	if !ended || !accept(line) {
		return false
	}
	r.rest = rest
	r.at++
	return true
}

// font reads the lines of a font, whatever its numbers and letters are.
func (r *reader) font() (f api.Font, ok bool) {
	if !r.next(func(line string) bool { return readHead(line, &f) }) {
		return f, false
	}
	for r.rest != "" {
		letter, ok := r.letter(f.Height)
		if !ok {
			return f, false
		}
		f.Letters = append(f.Letters, letter)
	}
	return f, true
}

func readHead(line string, f *api.Font) bool {
	words := strings.Split(line, space)
	if len(words) != 5 || words[0] != fontMark || words[1] == "" {
		return false
	}
	f.Name = words[1]
	for i, n := range []*int{&f.Height, &f.Gap, &f.Space} {
		var ok bool
		if *n, ok = page.Number(words[2+i], maxDigits); !ok {
			return false
		}
	}
	return true
}

func (r *reader) letter(height int) (letter api.Letter, ok bool) {
	head := func(line string) bool {
		mark, text, _ := strings.Cut(line, space)
		letter.Text = text
		return mark == letterMark && isVisible(text)
	}
	if !r.next(head) {
		return letter, false
	}
	for range height {
		if !r.next(func(line string) bool { return addRow(&letter.Bits, line) }) {
			return letter, false
		}
	}
	return letter, true
}

// addRow puts a row below a page, unless it is none, or not as long as the rows above.
func addRow(b *api.Bits, line string) bool {
	if !page.IsRow(line) || b.H > 0 && len(line) != b.W {
		return false
	}
	b.W = len(line)
	b.H++
	for i := range len(line) {
		b.P = append(b.P, line[i] == '#')
	}
	return true
}
