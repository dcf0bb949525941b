package bar

import (
	"cmp"
	"slices"

	"flatbed/api"
	"flatbed/page"
)

const (
	maxCount = 1_000_000
	maxCodes = 10000
)

// ReadRow returns the codes of a row.
func ReadRow(b api.Bits, y int) ([]api.Code, api.Errno) {
	runs, e := Runs(b, y)
	if e != api.OK {
		return nil, e
	}
	return readRow(runs, y), api.OK
}

func readRow(runs []int, y int) []api.Code {
	var l []api.Code
	x := runs[0]
	for at := 1; at < len(runs); {
		code, count := firstOf(runs[at:])
		if count > 0 {
			code.X, code.Y, code.W, code.Count = x, y, total(runs[at:at+count]), 1
			l = append(l, code)
		}
		next := min(at+max(count, 1)+1, len(runs))
		x += total(runs[at:next])
		at = next
	}
	return l
}

// firstOf reads the code that begins with the first run; count tells how many runs it has, and is 0 if there is none.
func firstOf(runs []int) (code api.Code, count int) {
	if len(runs) >= runsEAN {
		if text, e := ReadEAN(unitsEAN(runs[:runsEAN])); e == api.OK {
			return api.Code{Kind: api.CodeEAN, Text: text}, runsEAN
		}
	}
	if count = upToStar(runs); count == 0 {
		return api.Code{}, 0
	}
	text, e := Read39(units39(runs[:count]))
	if e != api.OK {
		return api.Code{}, 0
	}
	return api.Code{Kind: api.Code39, Text: text}, count
}

// upToStar returns how many runs there are from a star to the next one, and 0 if the first letter is none. As a code has
// stars at both ends and nowhere between, no other one can begin here. If it is turned round, so are both stars.
func upToStar(runs []int) int {
	if len(runs) < runsOf39 {
		return 0
	}
	first := piecesOf(runs[:runsOf39])
	if first != pieces39[starNumber] && first != backwards(pieces39[starNumber]) {
		return 0
	}
	for m := 2; m <= mostWhole && runsStep*m-1 <= len(runs); m++ {
		end := runsStep*m - 1
		if piecesOf(runs[end-runsOf39:end]) == first {
			return end
		}
	}
	return 0
}

// Find returns the codes of all rows that are multiples of step.
func Find(b api.Bits, step int) ([]api.Code, api.Errno) {
	if e := page.CheckBits(b); e != api.OK {
		return nil, e
	}
	if page.Outside(step, 1, api.MaxSide) {
		return nil, api.ErrRange
	}
	var l []api.Code
	for y := 0; y < b.H; y += step {
		l = append(l, readRow(runsOf(b, y), y)...)
	}
	return Vote(l)
}

// A vote is for what was read, wherever it was.
type vote struct {
	kind int
	text string
}

// Vote puts codes together that have the same kind and text.
func Vote(l []api.Code) ([]api.Code, api.Errno) {
	if e := checkCodes(l); e != api.OK {
		return nil, e
	}
	var together []api.Code
	places := map[vote]int{}
	for _, c := range l {
		v := vote{c.Kind, c.Text}
		if at, ok := places[v]; ok {
			together[at] = joined(together[at], c)
		} else {
			places[v] = len(together)
			together = append(together, c)
		}
	}
	slices.SortFunc(together, func(a, b api.Code) int {
		return cmp.Or(cmp.Compare(a.Y, b.Y), cmp.Compare(a.X, b.X), cmp.Compare(a.Text, b.Text), cmp.Compare(a.Kind, b.Kind))
	})
	return together, api.OK
}

func checkCodes(l []api.Code) api.Errno {
	for _, c := range l {
		if !isKind(c.Kind) {
			return api.ErrKind
		}
		if page.Outside(c.X, 0, api.MaxSide) || page.Outside(c.Y, 0, api.MaxSide) || page.Outside(c.W, 0, api.MaxSide) {
			return api.ErrRange
		}
		if page.Outside(c.Count, 1, maxCount) {
			return api.ErrRange
		}
	}
	if len(l) > maxCodes {
		return api.ErrLarge
	}
	return api.OK
}

// joined has all columns of both codes.
func joined(a, b api.Code) api.Code {
	right := max(a.X+a.W, b.X+b.W)
	a.X, a.Y = min(a.X, b.X), min(a.Y, b.Y)
	a.W = right - a.X
	a.Count += b.Count
	return a
}
