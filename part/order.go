package part

import (
	"cmp"
	"iter"
	"slices"

	"flatbed/api"
)

// Order returns in which order boxes are read, as numbers.
func Order(l []api.Box, gapx, gapy int) ([]int, api.Errno) {
	if e := checkBoxes(l); e != api.OK {
		return nil, e
	}
	if e := checkGaps(gapx, gapy); e != api.OK {
		return nil, e
	}
	piles := partsOf(pileOf(l), func(p pile) (first, second pile, ok bool) { return p.divide(l, gapx, gapy) })
	order := make([]int, 0, len(l))
	for _, p := range piles {
		order = append(order, p.byRows...)
	}
	return order, api.OK
}

// A pile has the numbers of some boxes twice: in the order of their columns, and in that in which they are read if they
// cannot be divided. So they need not be sorted again when they are divided.
type pile struct{ byColumns, byRows []int }

func pileOf(l []api.Box) pile {
	p := pile{byColumns: numbers(len(l)), byRows: numbers(len(l))}
	slices.SortFunc(p.byColumns, func(i, j int) int { return cmp.Compare(l[i].X, l[j].X) })
	slices.SortFunc(p.byRows, func(i, j int) int {
		a, b := l[i], l[j]
		return cmp.Or(cmp.Compare(a.Y, b.Y), cmp.Compare(a.X, b.X), cmp.Compare(a.H, b.H), cmp.Compare(a.W, b.W),
			cmp.Compare(i, j))
	})
	return p
}

// divide cuts a pile of boxes of l between their columns or between their rows, if it can be cut.
func (p pile) divide(l []api.Box, gapx, gapy int) (first, second pile, ok bool) {
	at, upright := cutBetween(taken(p.byColumns, l, columnsOf), taken(p.byRows, l, rowsOf), gapx, gapy)
	if at.size() == 0 {
		return pile{}, pile{}, false
	}
	before := func(i int) bool {
		if upright {
			return l[i].X < at.from
		}
		return l[i].Y < at.from
	}
	first.byColumns, second.byColumns = sift(p.byColumns, before)
	first.byRows, second.byRows = sift(p.byRows, before)
	return first, second, true
}

// sift divides a list into what is wanted and what is not, each in the order of the list.
func sift(l []int, wanted func(i int) bool) (yes, no []int) {
	yes, no = make([]int, 0, len(l)), make([]int, 0, len(l))
	for _, i := range l {
		if wanted(i) {
			yes = append(yes, i)
		} else {
			no = append(no, i)
		}
	}
	return yes, no
}

// taken tells which columns or rows boxes have; order is that of where they begin.
func taken(order []int, l []api.Box, of func(api.Box) span) iter.Seq[span] {
	return func(yield func(span) bool) {
		for _, i := range order {
			if !yield(of(l[i])) {
				return
			}
		}
	}
}
