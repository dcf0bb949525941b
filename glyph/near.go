package glyph

import (
	"cmp"
	"math/bits"
	"slices"

	"flatbed/api"
	"flatbed/page"
)

const (
	maxReach = 4
	wordBits = 64
)

// Distance tells how far two shapes are from each other: at how many places they differ at least, when b is moved by up
// to reach.
func Distance(a, b api.Bits, reach int) (int, api.Errno) {
	if e := page.CheckBits(a); e != api.OK {
		return 0, e
	}
	if e := page.CheckBits(b); e != api.OK {
		return 0, e
	}
	if page.Outside(reach, 0, maxReach) {
		return 0, api.ErrRange
	}
	return ShapeOf(a).distance(ShapeOf(b), reach), api.OK
}

// Match returns how far the letters of a font are from a shape, the nearest first.
func Match(f api.Font, b api.Bits, reach int) ([]api.Match, api.Errno) {
	if e := Check(f); e != api.OK {
		return nil, e
	}
	if e := page.CheckBits(b); e != api.OK {
		return nil, e
	}
	if page.Outside(reach, 0, maxReach) {
		return nil, api.ErrRange
	}
	return nearest(signsOf(f), ShapeOf(b), reach), api.OK
}

// Apart returns by how much those two letters of a font differ that differ least, and their texts.
func Apart(f api.Font) (int, string, string, api.Errno) {
	if e := Check(f); e != api.OK {
		return 0, "", "", e
	}
	if len(f.Letters) == 1 {
		return 0, "", "", api.ErrEmpty
	}
	signs := signsOf(f)
	a, b := signs[0], signs[1]
	least := a.shape.distance(b.shape, 0)
	for i, s := range signs {
		for _, t := range signs[i+1:] {
			if d := s.shape.distance(t.shape, 0); d < least {
				least, a, b = d, s, t
			}
		}
	}
	return least, a.text, b.text, api.OK
}

// A sign is a letter whose shape can be compared.
type sign struct {
	text  string
	shape Shape
}

func signsOf(f api.Font) []sign {
	l := make([]sign, 0, len(f.Letters))
	for _, letter := range f.Letters {
		l = append(l, sign{letter.Text, ShapeOf(letter.Bits)})
	}
	return l
}

// nearest returns how far signs are from a shape, the nearest first, equal ones in the order of the list.
func nearest(l []sign, s Shape, reach int) []api.Match {
	found := make([]api.Match, 0, len(l))
	for _, letter := range l {
		found = append(found, api.Match{Text: letter.text, Distance: letter.shape.distance(s, reach)})
	}
	slices.SortStableFunc(found, func(a, b api.Match) int { return cmp.Compare(a.Distance, b.Distance) })
	return found
}

// Shape is a page with 64 rows of a column in a word, the first one in the lowest bit, so that they are compared at
// once. Its words stand in bands, each of which has the next 64 rows of all columns.
type Shape struct {
	w, h, bands, ink int
	words            []uint64
}

// ShapeOf leaves the check of the page to its caller.
func ShapeOf(b api.Bits) Shape {
	return makeShape(b.W, b.H, func(x, top int) uint64 {
		word := uint64(0)
		for y := min(top+wordBits, b.H) - 1; y >= top; y-- {
			word <<= 1
			if b.P[y*b.W+x] {
				word |= 1
			}
		}
		return word
	})
}

// makeShape makes a shape of what wordFrom tells of 64 rows of a column.
func makeShape(w, h int, wordFrom func(x, top int) uint64) Shape {
	s := Shape{w: w, h: h, bands: (h + wordBits - 1) / wordBits}
	s.words = page.Fill(s.w, s.bands, func(x, band int) uint64 { return wordFrom(x, band*wordBits) })
	for _, word := range s.words {
		s.ink += bits.OnesCount64(word)
	}
	return s
}

// Below returns a shape without its first y rows; its caller checks that there are more.
func (s Shape) Below(y int) Shape {
	return makeShape(s.w, s.h-y, func(x, top int) uint64 { return s.wordFrom(x, y+top) })
}

// Differ counts the places of s at which it differs from the upper rows of a page, if its left column comes to x there.
// Its caller checks that all of s then lies in the page.
func (s Shape) Differ(ground Shape, x int) int {
	n := 0
	for band := range s.bands {
		rows := ^uint64(0) >> (wordBits - min(s.h-band*wordBits, wordBits))
		below := ground.words[band*ground.w+x:]
		for i, word := range s.words[band*s.w : (band+1)*s.w] {
			n += bits.OnesCount64(word ^ below[i]&rows)
		}
	}
	return n
}

// distance counts the places with ink of one alone: all ink of both, without that which lies on each other, twice.
func (s Shape) distance(o Shape, reach int) int {
	most := 0
	for dx := -reach; dx <= reach; dx++ {
		for dy := -reach; dy <= reach; dy++ {
			most = max(most, s.common(o, dx, dy))
		}
	}
	return s.ink + o.ink - 2*most
}

// common counts the places at which s, and o moved by (dx, dy), both have ink.
func (s Shape) common(o Shape, dx, dy int) int {
	n := 0
	for band := range s.bands {
		for x := max(dx, 0); x < min(s.w, o.w+dx); x++ {
			n += bits.OnesCount64(s.word(x, band) & o.wordFrom(x-dx, band*wordBits-dy))
		}
	}
	return n
}

// word is without ink above and below the shape.
func (s Shape) word(x, band int) uint64 {
	if page.Outside(band, 0, s.bands-1) {
		return 0
	}
	return s.words[band*s.w+x]
}

// wordFrom returns 64 rows of a column from the row y on, which can be negative. Two bands have them, the lower of which
// has none if the rows are those of a band: then all of it is shifted out.
func (s Shape) wordFrom(x, y int) uint64 {
	down := (y%wordBits + wordBits) % wordBits
	band := (y - down) / wordBits
	return s.word(x, band)>>down | s.word(x, band+1)<<(wordBits-down)
}
