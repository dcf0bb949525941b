package skew_test

import (
	"slices"
	"testing"

	"flatbed/api"
	"flatbed/skew"
)

// The unused capacity of the pages is filled, so that what is written there is seen.
func spareBits() api.Bits {
	b := mixedBits(9, 6, 128)
	b.P = append(b.P, true, false, true, true)[:54]
	return b
}

func spareGray() api.Gray {
	g := mixed(9, 6)
	g.P = append(g.P, 1, 2, 3, 4)[:54]
	return g
}

func whole[T any](p []T) []T { return slices.Clone(p[:cap(p)]) }

// bitsResults are the pages that calls make of a page, also where nothing changes.
func bitsResults(b api.Bits) []api.Bits {
	var l []api.Bits
	keep := func(x api.Bits, _ api.Errno) { l = append(l, x) }
	for _, n := range []int{0, 1, -200} {
		keep(skew.Lean(b, n))
		keep(skew.Slant(b, n))
	}
	for _, most := range []int{0, 256} {
		x, _, _ := skew.Straight(b, most)
		l = append(l, x)
	}
	keep(skew.Centre(b, 9, 6))
	keep(skew.Centre(b, 3, 20))
	return l
}

func intResults(b api.Bits) [][]int {
	var l [][]int
	for _, n := range []int{0, 1, -200} {
		p, _ := skew.Profile(b, n)
		l = append(l, p)
	}
	return l
}

// TestArgumentsStay overwrites all results, and their unused capacity: no argument changes, and no other result.
func TestArgumentsStay(t *testing.T) {
	a, b, g := spareBits(), spareBits(), spareGray()
	oldA, oldB, oldG := whole(a.P), whole(b.P), whole(g.P)
	bits, ints := bitsResults(b), intResults(b)
	for _, x := range bitsResults(b) {
		p := x.P[:cap(x.P)]
		for i := range p {
			p[i] = !p[i]
		}
	}
	for _, x := range intResults(b) {
		p := x[:cap(x)]
		for i := range p {
			p[i]++
		}
	}
	skew.Score(b, 256)
	skew.Find(b, 256)
	skew.FindSlant(b, 256)
	skew.Upright(b)
	skew.Sheet(g, 128, 500)
	skew.Margins(b)
	skew.Align(a, b, 8)
	if !slices.Equal(oldA, whole(a.P)) || !slices.Equal(oldB, whole(b.P)) || !slices.Equal(oldG, whole(g.P)) {
		t.Error("an argument was changed")
	}
	if !slices.EqualFunc(bits, bitsResults(b), sameBits) || !slices.EqualFunc(ints, intResults(b), slices.Equal) {
		t.Error("a result comes out otherwise the next time")
	}
}
