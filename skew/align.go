package skew

import (
	"cmp"
	"math/bits"
	"slices"

	"flatbed/api"
	"flatbed/page"
)

const (
	maxReach = 8
	wordBits = 64
)

// Align looks how b lies on a: where it differs least when it is moved by up to reach, and at how many places then.
func Align(a, b api.Bits, reach int) (int, int, int, api.Errno) {
	if e := checkAlign(a, b, reach); e != api.OK {
		return 0, 0, 0, e
	}
	ground := packed(a, 0)
	var tried []api.Found
	for dx := -reach; dx <= reach; dx++ {
		cover := packed(b, dx)
		for dy := -reach; dy <= reach; dy++ {
			tried = append(tried, api.Found{DX: dx, DY: dy, Distance: ground.differ(cover, dy)})
		}
	}
	p := slices.MinFunc(tried, ComparePlacings)
	return p.DX, p.DY, p.Distance, api.OK
}

func checkAlign(a, b api.Bits, reach int) api.Errno {
	if e := page.CheckBits(a); e != api.OK {
		return e
	}
	if e := page.CheckBits(b); e != api.OK {
		return e
	}
	if a.W != b.W || a.H != b.H {
		return api.ErrConflict
	}
	if page.Outside(reach, 0, maxReach) {
		return api.ErrRange
	}
	return api.OK
}

// ComparePlacings puts that ahead which differs less, then that which is moved less. It finds no two equal ones, so that
// the order in which they were tried does not matter.
func ComparePlacings(p, q api.Found) int {
	return cmp.Or(
		cmp.Compare(p.Distance, q.Distance),
		cmp.Compare(far(p), far(q)),
		cmp.Compare(p.DY, q.DY),
		cmp.Compare(p.DX, q.DX),
	)
}

func far(p api.Found) int { return max(p.DX, -p.DX) + max(p.DY, -p.DY) }

// A packing is a page with 64 pixels in a word, so that they are compared at once. Each row begins with a word of its own.
type packing struct {
	across, h int
	words     []uint64
	empty     []uint64
}

// packed packs a page that is moved to the right by dx.
func packed(b api.Bits, dx int) packing {
	across := (b.W + wordBits - 1) / wordBits
	words := page.Fill(across, b.H, func(i, y int) uint64 {
		word := uint64(0)
		for x := i * wordBits; x < min((i+1)*wordBits, b.W); x++ {
			word <<= 1
			if inkAt(b, x-dx, y) {
				word++
			}
		}
		return word
	})
	return packing{across: across, h: b.H, words: words, empty: make([]uint64, across)}
}

// row is without ink outside of the page.
func (p packing) row(y int) []uint64 {
	if page.Outside(y, 0, p.h-1) {
		return p.empty
	}
	return p.words[y*p.across : (y+1)*p.across]
}

// differ counts the places at which p differs from a cover of the same size that is moved down by dy.
func (p packing) differ(cover packing, dy int) int {
	n := 0
	for y := range p.h {
		below := cover.row(y - dy)
		for i, word := range p.row(y) {
			n += bits.OnesCount64(word ^ below[i])
		}
	}
	return n
}
