package part_test

import (
	"slices"
	"testing"

	"flatbed/api"
	"flatbed/part"
)

// labels gives each of n things the least number of all that are joined with it, by way of others too.
func labels(n int, joined func(i, j int) bool) []int {
	l := make([]int, n)
	for i := range l {
		l[i] = i
	}
	for again := true; again; {
		again = false
		for i := range l {
			for j := range l {
				if l[j] < l[i] && joined(i, j) {
					l[i], again = l[j], true
				}
			}
		}
	}
	return l
}

func inked(b api.Bits) []api.Point {
	var l []api.Point
	for i, ink := range b.P {
		if ink {
			l = append(l, api.Point{X: i % b.W, Y: i / b.W})
		}
	}
	return l
}

func pieceOfPoints(l []api.Point) api.Piece {
	p := api.Piece{Count: len(l), First: l[0], Box: api.Box{X: l[0].X, Y: l[0].Y}}
	right, bottom := l[0].X, l[0].Y
	for _, at := range l {
		p.Box.X, p.Box.Y = min(p.Box.X, at.X), min(p.Box.Y, at.Y)
		right, bottom = max(right, at.X), max(bottom, at.Y)
		if at.Y < p.First.Y || at.Y == p.First.Y && at.X < p.First.X {
			p.First = at
		}
	}
	p.Box.W, p.Box.H = right-p.Box.X+1, bottom-p.Box.Y+1
	return p
}

// inkGroups are the pixels of each piece, in the order of the first ones.
func inkGroups(b api.Bits) [][]api.Point {
	points := inked(b)
	label := labels(len(points), func(i, j int) bool {
		x, y := points[i].X-points[j].X, points[i].Y-points[j].Y
		return max(x, -x, y, -y) == 1
	})
	var groups [][]api.Point
	for first := range points {
		var group []api.Point
		for i, at := range points {
			if label[i] == first {
				group = append(group, at)
			}
		}
		if len(group) > 0 {
			groups = append(groups, group)
		}
	}
	return groups
}

// piecesByLabels is P65 word by word.
func piecesByLabels(b api.Bits) []api.Piece {
	var l []api.Piece
	for _, group := range inkGroups(b) {
		l = append(l, pieceOfPoints(group))
	}
	return l
}

func TestPieces(t *testing.T) {
	for _, c := range []struct {
		b    api.Bits
		want []api.Piece
	}{
		{draw("#"), []api.Piece{{Box: api.Box{W: 1, H: 1}, Count: 1}}},
		{draw("."), nil},
		{draw("...", "...", "..."), nil},
		// The second one begins first, but reaches farther to the left and down.
		{draw("..#.#", "#...#", "##.#.", "##..."), []api.Piece{
			{Box: api.Box{X: 2, W: 1, H: 1}, Count: 1, First: api.Point{X: 2}},
			{Box: api.Box{X: 3, W: 2, H: 3}, Count: 3, First: api.Point{X: 4}},
			{Box: api.Box{Y: 1, W: 2, H: 3}, Count: 5, First: api.Point{Y: 1}},
		}},
		// Pieces join by corners, but not from the end of a row to the start of the next one.
		{draw("#..#", ".##.", "...."), []api.Piece{{Box: api.Box{W: 4, H: 2}, Count: 4}}},
		{draw("...#", "#..."), []api.Piece{
			{Box: api.Box{X: 3, W: 1, H: 1}, Count: 1, First: api.Point{X: 3}},
			{Box: api.Box{Y: 1, W: 1, H: 1}, Count: 1, First: api.Point{Y: 1}},
		}},
		// The first pixel need not be at the left of the box.
		{draw("...#", "..#.", "###."), []api.Piece{{Box: api.Box{W: 4, H: 3}, Count: 5, First: api.Point{X: 3}}}},
	} {
		l, e := part.Pieces(c.b)
		wantList(t, "Pieces", l, e, c.want)
	}
	eachMixed(func(b api.Bits) {
		l, e := part.Pieces(b)
		wantList(t, "Pieces", l, e, piecesByLabels(b))
		ink := 0
		for _, p := range l {
			ink += p.Count
		}
		if ink != len(inked(b)) {
			t.Error("not all ink is in just one piece", picture(b), l)
		}
		if !slices.IsSortedFunc(l, func(p, q api.Piece) int { return p.First.Y*b.W + p.First.X - q.First.Y*b.W - q.First.X }) {
			t.Error("not in the order of First", l)
		}
	})
}
