package clean_test

import (
	"slices"
	"testing"

	"flatbed/api"
	"flatbed/clean"
)

// The unused capacity of the pages is filled, so that what is written there is seen.
func spareBits() api.Bits {
	b := mixedBits(7, 6, 128)
	b.P = append(b.P, true, false, true, true)[:42]
	return b
}

func spareGray() api.Gray {
	g := mixed(7, 6)
	g.P = append(g.P, 1, 2, 3, 4)[:42]
	return g
}

func whole[T any](p []T) []T { return slices.Clone(p[:cap(p)]) }

// bitsResults are the pages in black and white that calls make of these arguments, also where nothing changes.
func bitsResults(b api.Bits, g api.Gray) []api.Bits {
	var l []api.Bits
	keep := func(x api.Bits, _ api.Errno) { l = append(l, x) }
	keepCounted := func(x api.Bits, _ int, _ api.Errno) { l = append(l, x) }
	keep(clean.Auto(g))
	keep(clean.Local(g, 2, 100))
	keep(clean.Majority(b))
	for n := range 3 {
		keep(clean.Spread(b, n))
		keep(clean.Shrink(b, n))
		keepCounted(clean.Specks(b, n))
		keepCounted(clean.Holes(b, n))
		keepCounted(clean.Border(b, n))
		keepCounted(clean.Thin(b, n))
	}
	return l
}

func grayResults(g api.Gray) []api.Gray {
	var l []api.Gray
	keep := func(x api.Gray, _ api.Errno) { l = append(l, x) }
	keep(clean.Stretch(g, 0, 255))
	keep(clean.Stretch(g, 50, 100))
	keep(clean.Middle(g, 0))
	keep(clean.Middle(g, 2))
	keep(clean.Even(g, 1))
	keep(clean.Even(g, 3))
	return l
}

// TestArgumentsStay overwrites all results, and their unused capacity: no argument changes, and no other result.
func TestArgumentsStay(t *testing.T) {
	b, g := spareBits(), spareGray()
	oldB, oldG := whole(b.P), whole(g.P)
	bits, grays := bitsResults(b, g), grayResults(g)
	for _, x := range bitsResults(b, g) {
		p := x.P[:cap(x.P)]
		for i := range p {
			p[i] = !p[i]
		}
	}
	for _, x := range grayResults(g) {
		p := x.P[:cap(x.P)]
		for i := range p {
			p[i]++
		}
	}
	clean.Level(g)
	clean.Strokes(b)
	if !slices.Equal(oldB, whole(b.P)) || !slices.Equal(oldG, whole(g.P)) {
		t.Error("an argument was changed")
	}
	if !slices.EqualFunc(bits, bitsResults(b, g), sameBits) || !slices.EqualFunc(grays, grayResults(g), sameGray) {
		t.Error("a page comes out otherwise the next time")
	}
}
