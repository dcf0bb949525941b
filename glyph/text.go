package glyph

import (
	"strconv"
	"strings"

	"flatbed/api"
	"flatbed/page"
)

const (
	fontMark   = "font"
	letterMark = "letter"
	maxDigits  = 9
)

// Print writes a font as lines.
func Print(f api.Font) (string, api.Errno) {
	if e := Check(f); e != api.OK {
		return "", e
	}
	numbers := []string{strconv.Itoa(f.Height), strconv.Itoa(f.Gap), strconv.Itoa(f.Space)}
	var text strings.Builder
	text.WriteString(fontMark + space + f.Name + space + strings.Join(numbers, space) + "\n")
	for _, l := range f.Letters {
		rows, e := page.Print(l.Bits)
		if e != api.OK {
			return "", e
		}
		text.WriteString(letterMark + space + l.Text + "\n" + rows)
	}
	// With the limits that Check knows, no font is as long; the error stands here for the case that they rise.
	if text.Len() > api.MaxText {
		return "", api.ErrLarge
	}
	return text.String(), api.OK
}

// Parse reads what Print writes; the second result is the number of the line with ErrSyntax, otherwise 0.
func Parse(text string) (api.Font, int, api.Errno) {
	if len(text) > api.MaxText {
		return api.Font{}, 0, api.ErrLarge
	}
	lines := page.Lines{Rest: text}
	f, ok := readFont(&lines)
	if !ok {
		return api.Font{}, lines.At, api.ErrSyntax
	}
	if e := Check(f); e != api.OK {
		return api.Font{}, 0, e
	}
	return f, 0, api.OK
}

// readFont reads the lines of a font, whatever its numbers and letters are.
func readFont(lines *page.Lines) (f api.Font, ok bool) {
	if !lines.Next(func(line string) bool { return readHead(line, &f) }) {
		return f, false
	}
	for lines.Rest != "" {
		letter, ok := readLetter(lines, f.Height)
		if !ok {
			return f, false
		}
		f.Letters = append(f.Letters, letter)
	}
	return f, true
}

func readHead(line string, f *api.Font) bool {
	words := strings.Split(line, space)
	if len(words) < 2 || words[0] != fontMark || words[1] == "" {
		return false
	}
	f.Name = words[1]
	return page.Numbers(words[2:], maxDigits, &f.Height, &f.Gap, &f.Space)
}

func readLetter(lines *page.Lines, height int) (letter api.Letter, ok bool) {
	head := func(line string) bool {
		mark, text, _ := strings.Cut(line, space)
		letter.Text = text
		return mark == letterMark && IsVisible(text)
	}
	if !lines.Next(head) {
		return letter, false
	}
	for range height {
		if !lines.Next(func(line string) bool { return addRow(&letter.Bits, line) }) {
			return letter, false
		}
	}
	return letter, true
}

// addRow puts a row below a page, unless it is none, or not as long as the rows above.
func addRow(b *api.Bits, line string) bool {
	if !page.IsRow(line) || b.H > 0 && len(line) != b.W {
		return false
	}
	b.W = len(line)
	b.H++
	for i := range len(line) {
		b.P = append(b.P, line[i] == '#')
	}
	return true
}
