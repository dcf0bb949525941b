package page

import (
	"strings"

	"flatbed/api"
)

// A text of the largest page that is printed has a line feed in each row.
const (
	maxPrinted = 200
	maxDrawing = maxPrinted * (maxPrinted + 1)
)

// Print writes a page as lines, a row each.
func Print(b api.Bits) (string, api.Errno) {
	if e := CheckBits(b); e != api.OK {
		return "", e
	}
	if b.W > maxPrinted || b.H > maxPrinted {
		return "", api.ErrLarge
	}
	text := Fill(b.W+1, b.H, func(x, y int) byte {
		switch {
		case x == b.W:
			return '\n'
		case b.P[y*b.W+x]:
			return '#'
		}
		return '.'
	})
	return string(text), api.OK
}

// Parse reads what Print writes; the second result is the number of the line with ErrSyntax, otherwise 0.
func Parse(text string) (api.Bits, int, api.Errno) {
	if len(text) > maxDrawing {
		return api.Bits{}, 0, api.ErrLarge
	}
	w, h := strings.IndexByte(text, '\n'), 0
	for rest := text; rest != ""; h++ {
		line, after, ended := strings.Cut(rest, "\n")
		if !ended || len(line) != w || !IsRow(line) {
			return api.Bits{}, h, api.ErrSyntax
		}
		rest = after
	}
	if h == 0 {
		return api.Bits{}, 0, api.ErrEmpty
	}
	if w > maxPrinted || h > maxPrinted {
		return api.Bits{}, 0, api.ErrLarge
	}
	p := Fill(w, h, func(x, y int) bool { return text[y*(w+1)+x] == '#' })
	return api.Bits{W: w, H: h, P: p}, 0, api.OK
}

// IsRow reports whether a line is a row of a page, as Print writes it: at least one `#` or `.`, and nothing else.
func IsRow(line string) bool {
	for i := range len(line) {
		if line[i] != '#' && line[i] != '.' {
			return false
		}
	}
	return line != ""
}

// Number reads a number without superfluous zeros, of at most so many digits (up to 18, which an int holds).
func Number(text string, digits int) (n int, ok bool) {
	if Outside(len(text), 1, digits) || text[0] == '0' && len(text) > 1 {
		return 0, false
	}
	for i := range len(text) {
		if !isDigit(text[i]) {
			return 0, false
		}
		n = 10*n + int(text[i]-'0')
	}
	return n, true
}

// Numbers reads a number for each word, as Number does, if there are just as many words as numbers.
func Numbers(words []string, digits int, numbers ...*int) bool {
	if len(words) != len(numbers) {
		return false
	}
	for i, n := range numbers {
		var ok bool
		if *n, ok = Number(words[i], digits); !ok {
			return false
		}
	}
	return true
}

// Lines goes through the lines of a text: Rest is what is left of it, At the number of the next line.
type Lines struct {
	Rest string
	At   int
}

// Next goes on behind a line, if it ends with a line feed, and accept takes it. Otherwise At stays its number: that of
// the line that cannot stand there, or, if there is none any more, how many there were.
func (l *Lines) Next(accept func(line string) bool) bool {
	line, rest, ended := strings.Cut(l.Rest, "\n")
	if !ended || !accept(line) {
		return false
	}
	l.Rest = rest
	l.At++
	return true
}

// Each goes on behind all lines that accept takes, up to the first one that it does not.
func (l *Lines) Each(accept func(line string) bool) {
	for l.Next(accept) {
		continue
	}
}
