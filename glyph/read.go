package glyph

import (
	"slices"
	"strings"

	"flatbed/api"
	"flatbed/page"
	"flatbed/part"
)

const (
	whole      = 1000
	readReach  = 1
	widerMost  = 2
	unknown    = "?"
	noDistance = -1
)

// Pieces returns the pieces of a line: columns with ink side by side, of all rows.
func Pieces(b api.Bits) ([]api.Box, api.Errno) {
	pieces, e := part.Words(b, api.Box{W: b.W, H: b.H}, 1)
	if e != api.OK {
		return nil, e
	}
	for i := range pieces {
		pieces[i].Y, pieces[i].H = 0, b.H
	}
	return pieces, api.OK
}

// Read reads a line; letters can differ by most thousandths of their boxes.
func Read(f api.Font, b api.Bits, most int) ([]api.Seen, api.Errno) {
	if e := checkRead(f, b, most); e != api.OK {
		return nil, e
	}
	pieces, e := Pieces(b)
	if e != api.OK {
		return nil, e
	}
	recognize := recognizer(f, most)
	var seen []api.Seen
	end := 0
	for i, box := range pieces {
		gap := api.Box{X: end, W: box.X - end, H: b.H}
		if i > 0 && gap.W >= (f.Gap+f.Space+1)/2 {
			seen = append(seen, api.Seen{Text: space, Box: gap, Second: noDistance})
		}
		c, e := page.Cut(b, box)
		if e != api.OK {
			return nil, e
		}
		s := recognize(c)
		s.Box = box
		seen = append(seen, s)
		end = box.X + box.W
	}
	return seen, api.OK
}

func checkRead(f api.Font, b api.Bits, most int) api.Errno {
	if e := Check(f); e != api.OK {
		return e
	}
	if e := page.CheckBits(b); e != api.OK {
		return e
	}
	if b.H != f.Height {
		return api.ErrConflict
	}
	if page.Outside(most, 0, whole) {
		return api.ErrRange
	}
	return api.OK
}

// recognizer returns a function that tells which letter of a font a piece is. Where the piece is, it leaves out.
func recognizer(f api.Font, most int) func(piece api.Bits) api.Seen {
	signs := signsOf(f)
	return func(piece api.Bits) api.Seen {
		asWide := slices.DeleteFunc(slices.Clone(signs), func(s sign) bool {
			return page.Outside(s.shape.w, piece.W-widerMost, piece.W+widerMost)
		})
		near := nearest(asWide, ShapeOf(piece), readReach)
		if len(near) == 0 || near[0].Distance*whole > most*f.Height*piece.W {
			return api.Seen{Text: unknown, Distance: noDistance, Second: noDistance}
		}
		second := noDistance
		if len(near) > 1 {
			second = near[1].Distance
		}
		return api.Seen{Text: near[0].Text, Distance: near[0].Distance, Second: second}
	}
}

// Text puts the texts of what was seen together.
func Text(l []api.Seen) string {
	var text strings.Builder
	for _, s := range l {
		text.WriteString(s.Text)
	}
	return text.String()
}

// Doubt returns the numbers of those that were not recognized, or nearly as another letter.
func Doubt(l []api.Seen, most int) []int {
	var doubts []int
	for i, s := range l {
		if s.Text != space && (s.Distance == noDistance || s.Second >= 0 && atMostMore(s.Second, s.Distance, most)) {
			doubts = append(doubts, i)
		}
	}
	return doubts
}

// atMostMore reports whether a, which is not negative, is at most most more than b. Where a - b is beyond what an int
// holds, it is less than 2^64.
func atMostMore(a, b, most int) bool {
	if a < b {
		return a-b <= most
	}
	return most >= 0 && uint64(a)-uint64(b) <= uint64(most)
}
