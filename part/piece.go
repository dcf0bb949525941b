package part

import (
	"flatbed/api"
	"flatbed/clean"
	"flatbed/page"
)

// Pieces returns the pieces of a page, in the order of their first pixels.
func Pieces(b api.Bits) ([]api.Piece, api.Errno) {
	if e := page.CheckBits(b); e != api.OK {
		return nil, e
	}
	return groupsOfInk(b, clean.ByNeighbours), api.OK
}

func groupsOfInk(b api.Bits, joined int) []api.Piece {
	var l []api.Piece
	clean.EachGroup(b, true, joined, func(group []int) { l = append(l, pieceOf(group, b.W)) })
	return l
}

// pieceOf looks at the places of a piece, of which the first one comes first, on a page of width w.
func pieceOf(group []int, w int) api.Piece {
	first := api.Point{X: group[0] % w, Y: group[0] / w}
	columns, rows := span{first.X, first.X + 1}, span{first.Y, first.Y + 1}
	for _, at := range group {
		x, y := at%w, at/w
		columns = over(columns, span{x, x + 1})
		rows = over(rows, span{y, y + 1})
	}
	return api.Piece{Box: boxOf(columns, rows), Count: len(group), First: first}
}
