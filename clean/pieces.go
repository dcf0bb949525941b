package clean

import (
	"slices"

	"flatbed/api"
	"flatbed/page"
)

// Specks takes away all pieces of at most most pixels, and returns how many they were.
func Specks(b api.Bits, most int) (api.Bits, int, api.Errno) {
	return change(b, most, true, func(group []int) bool { return len(group) <= most })
}

// Holes fills all gaps of at most most pixels that are not at the border of the page, and returns how many they were.
func Holes(b api.Bits, most int) (api.Bits, int, api.Errno) {
	return change(b, most, false, func(group []int) bool {
		return len(group) <= most && !reachOf(b, group).touches()
	})
}

// Border takes away pieces at the border of the page that reach at most most pixels into it from one side, and returns
// how many they were. The side need not be the one at whose border the piece is.
func Border(b api.Bits, most int) (api.Bits, int, api.Errno) {
	return change(b, most, true, func(group []int) bool {
		r := reachOf(b, group)
		return r.touches() && r.within(most)
	})
}

// change turns over those groups (of ink the pieces, otherwise the gaps) that are wanted, and returns how many they were.
func change(b api.Bits, most int, ink bool, wanted func(group []int) bool) (api.Bits, int, api.Errno) {
	if e := page.CheckBits(b); e != api.OK {
		return api.Bits{}, 0, e
	}
	if page.Outside(most, 0, api.MaxPixels) {
		return api.Bits{}, 0, api.ErrRange
	}
	n, p, joined := 0, slices.Clone(b.P), BySides
	if ink {
		joined = ByNeighbours
	}
	EachGroup(b, ink, joined, func(group []int) {
		if !wanted(group) {
			return
		}
		n++
		for _, at := range group {
			p[at] = !ink
		}
	})
	return api.Bits{W: b.W, H: b.H, P: p}, n, api.OK
}

// EachGroup calls visit with the places of each group of pixels of one colour that are joined: by neighbours or by sides.
// The groups come in the order of their first pixels, row by row, each with its first pixel first. The places are told
// during the call only, as the next group takes their memory. It leaves the check of the page to its caller.
func EachGroup(b api.Bits, ink bool, joined int, visit func(group []int)) {
	seen := make([]bool, len(b.P))
	var group []int
	take := func(at int) {
		if b.P[at] == ink && !seen[at] {
			seen[at] = true
			group = append(group, at)
		}
	}
	for start := range b.P {
		group = group[:0]
		take(start)
		for next := 0; next < len(group); next++ {
			eachAround(b.W, b.H, group[next], joined, func(_, at int) { take(at) })
		}
		if len(group) > 0 {
			visit(group)
		}
	}
}

// A reach is how far pixels are from each border of the page: the nearest and the farthest one.
type reach struct{ nearest, farthest [4]int }

func reachOf(b api.Bits, group []int) reach {
	r := reach{nearest: [4]int{b.W, b.H, b.W, b.H}}
	for _, at := range group {
		x, y := at%b.W, at/b.W
		for i, away := range [4]int{x, y, b.W - 1 - x, b.H - 1 - y} {
			r.nearest[i] = min(r.nearest[i], away)
			r.farthest[i] = max(r.farthest[i], away)
		}
	}
	return r
}

func (r reach) touches() bool { return slices.Contains(r.nearest[:], 0) }

func (r reach) within(most int) bool { return slices.Min(r.farthest[:]) <= most }
