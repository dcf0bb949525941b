package part

import (
	"slices"

	"flatbed/api"
	"flatbed/page"
)

// CheckBox returns what is wrong with a box of any place.
func CheckBox(b api.Box) api.Errno {
	if page.Outside(b.X, -api.MaxPlace, api.MaxPlace) || page.Outside(b.Y, -api.MaxPlace, api.MaxPlace) {
		return api.ErrRange
	}
	if page.Outside(b.W, 1, api.MaxPlace) || page.Outside(b.H, 1, api.MaxPlace) {
		return api.ErrRange
	}
	return api.OK
}

func checkBoxes(l []api.Box) api.Errno {
	if len(l) > api.MaxBoxes {
		return api.ErrLarge
	}
	for _, b := range l {
		if e := CheckBox(b); e != api.OK {
			return e
		}
	}
	return api.OK
}

// Near tells how many columns and how many rows lie between two boxes.
func Near(a, b api.Box) (dx, dy int) {
	return apart(columnsOf(a), columnsOf(b)), apart(rowsOf(a), rowsOf(b))
}

func apart(a, b span) int { return max(0, b.from-a.to, a.from-b.to) }

// Hull returns the least box that has all of a list.
func Hull(l []api.Box) (api.Box, api.Errno) {
	if e := checkBoxes(l); e != api.OK {
		return api.Box{}, e
	}
	if len(l) == 0 {
		return api.Box{}, api.ErrEmpty
	}
	columns, rows := columnsOf(l[0]), rowsOf(l[0])
	for _, b := range l {
		columns = over(columns, columnsOf(b))
		rows = over(rows, rowsOf(b))
	}
	return boxOf(columns, rows), api.OK
}

// over is the least span that has both.
func over(a, b span) span { return span{min(a.from, b.from), max(a.to, b.to)} }

// Groups joins boxes that are close: with at most dx columns and dy rows between.
func Groups(l []api.Box, dx, dy int) ([][]int, api.Errno) {
	if e := checkBoxes(l); e != api.OK {
		return nil, e
	}
	if page.Outside(dx, 0, api.MaxPlace) || page.Outside(dy, 0, api.MaxPlace) {
		return nil, api.ErrRange
	}
	isClose := func(i, j int) bool {
		x, y := Near(l[i], l[j])
		return x <= dx && y <= dy
	}
	var groups [][]int
	for rest := numbers(len(l)); len(rest) > 0; {
		var group []int
		group, rest = groupOfFirst(rest, isClose)
		slices.Sort(group)
		groups = append(groups, group)
	}
	return groups, api.OK
}

// numbers returns those from 0 to before n.
func numbers(n int) []int {
	l := make([]int, n)
	for i := range l {
		l[i] = i
	}
	return l
}

// groupOfFirst returns all numbers that are joined with the first one, itself too, and those that are not; the latter
// stay in the memory of the list.
func groupOfFirst(l []int, isClose func(i, j int) bool) (group, rest []int) {
	group, rest = []int{l[0]}, l[1:]
	for next := 0; next < len(group); next++ {
		far := rest[:0]
		for _, j := range rest {
			if isClose(group[next], j) {
				group = append(group, j)
			} else {
				far = append(far, j)
			}
		}
		rest = far
	}
	return group, rest
}
