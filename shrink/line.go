package shrink

import (
	"slices"
	"strings"

	"flatbed/api"
	"flatbed/page"
)

const (
	passCode = "0001"
	runsCode = "001"
	nearest  = 3
)

// nearCodes has the code of each difference from -3 to 3.
var nearCodes = [...]string{"0000010", "000010", "010", "1", "011", "000011", "0000011"}

// Line codes a row by the one above it.
func Line(row, above []bool) (string, api.Errno) {
	if len(row) > api.MaxSide || len(above) > api.MaxSide {
		return "", api.ErrLarge
	}
	if len(row) != len(above) {
		return "", api.ErrForm
	}
	return lineOf(row, above), api.OK
}

func lineOf(row, above []bool) string {
	own := changesOf(row)
	p := newPen(above)
	var bits strings.Builder
	for p.goesOn() {
		i := firstBehind(own, p.at)
		a1, a2 := p.change(own, i), p.change(own, i+1)
		b1, b2 := p.changesAbove()
		switch {
		case b2 < a1:
			bits.WriteString(passCode)
			p.at = b2
		case !page.Outside(a1-b1, -nearest, nearest):
			bits.WriteString(nearCodes[a1-b1+nearest])
			p.at, p.ink = a1, !p.ink
		default:
			bits.WriteString(runsCode + gammaOf(a1-p.from()+1) + gammaOf(a2-a1+1))
			p.at = a2
		}
	}
	return bits.String()
}

// changesOf returns the places at which the colour of a row changes, in turn to ink and to none; the last one is its end.
func changesOf(row []bool) []int {
	changes, _ := Runs(row)
	at := 0
	for i, run := range changes {
		at += run
		changes[i] = at
	}
	return changes
}

// firstBehind returns the number of the first change behind a place.
func firstBehind(changes []int, place int) int {
	i, _ := slices.BinarySearch(changes, place+1)
	return i
}

// A pen goes along a row of w pixels. It has come to the place at, which is ahead of the row at first, and has a colour.
type pen struct {
	at, w int
	ink   bool
	above []int
}

func newPen(above []bool) pen { return pen{at: -1, w: len(above), above: changesOf(above)} }

// from is the first place that has no colour yet.
func (p *pen) from() int { return max(p.at, 0) }

func (p *pen) goesOn() bool { return p.from() < p.w }

// change returns the place of a change; where there is none left, this is the end of the row.
func (p *pen) change(changes []int, i int) int {
	if i < len(changes) {
		return changes[i]
	}
	return p.w
}

// changesAbove returns the next change of the row above to the colour that the pen does not have, and the one behind it.
func (p *pen) changesAbove() (b1, b2 int) {
	i := firstBehind(p.above, p.at)
	if toInk := i%2 == 0; toInk == p.ink {
		i++
	}
	return p.change(p.above, i), p.change(p.above, i+1)
}

// ReadLine reads what Line writes, and tells how many bits that are.
func ReadLine(bits string, above []bool) ([]bool, int, api.Errno) {
	if len(above) > api.MaxSide {
		return nil, 0, api.ErrLarge
	}
	r := lineReader{pen: newPen(above), row: make([]bool, len(above)), rest: bits}
	for r.goesOn() {
		if !r.step() {
			return nil, 0, api.ErrSyntax
		}
	}
	n := len(bits) - len(r.rest)
	if lineOf(r.row, above) != bits[:n] {
		return nil, 0, api.ErrSyntax
	}
	return r.row, n, api.OK
}

// A lineReader is a pen that draws a row, as the rest of the bits tells it.
type lineReader struct {
	pen
	row  []bool
	rest string
}

// step reports whether there was a code that could be followed. No code is the beginning of another one.
func (r *lineReader) step() bool {
	b1, b2 := r.changesAbove()
	if r.cut(passCode) {
		return r.draw(b2)
	}
	if r.cut(runsCode) {
		return r.drawRun() && r.drawRun()
	}
	for i, code := range nearCodes {
		if r.cut(code) {
			return r.drawAndExchange(b1 + i - nearest)
		}
	}
	return false
}

func (r *lineReader) cut(code string) bool {
	rest, ok := strings.CutPrefix(r.rest, code)
	r.rest = rest
	return ok
}

func (r *lineReader) drawRun() bool {
	n, long, e := ReadGamma(r.rest)
	if e != api.OK {
		return false
	}
	r.rest = r.rest[long:]
	return r.drawAndExchange(r.from() + n - 1)
}

func (r *lineReader) drawAndExchange(to int) bool {
	ok := r.draw(to)
	r.ink = !r.ink
	return ok
}

// draw draws up to a place, which is behind the one that it has come to, and in the row. Only the end can be reached
// twice: Line writes so if a1 is the end, as then a2 is, too.
func (r *lineReader) draw(to int) bool {
	if to > r.w || to <= r.at && to < r.w {
		return false
	}
	for x := r.from(); x < to; x++ {
		r.row[x] = r.ink
	}
	r.at = to
	return true
}
