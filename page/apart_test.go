package page_test

import (
	"bytes"
	"slices"
	"testing"

	"flatbed/api"
	"flatbed/page"
)

// The unused capacity of the pages is filled, so that what is written there is seen.
func spareBits() api.Bits {
	b := mixedBits(5, 4)
	b.P = append(b.P, true, false, true, true)[:20]
	return b
}

func spareGray() api.Gray {
	g := mixed(5, 4)
	g.P = append(g.P, 1, 2, 3, 4)[:20]
	return g
}

func whole[T any](p []T) []T { return slices.Clone(p[:cap(p)]) }

// bitsResults are the pages in black and white that calls make of these arguments.
func bitsResults(b, c api.Bits, g api.Gray) []api.Bits {
	var l []api.Bits
	keep := func(x api.Bits, _ api.Errno) { l = append(l, x) }
	keep(page.Cut(b, api.Box{W: 5, H: 4}))
	keep(page.Cut(b, api.Box{W: 5, H: 1}))
	for quarters := range 5 {
		keep(page.Turn(b, quarters))
	}
	keep(page.Mirror(b))
	keep(page.Invert(b))
	keep(page.Grow(b, 1))
	keep(page.Grow(b, 3))
	keep(page.Paste(b, c, 1, 1))
	keep(page.Paste(b, c, 100, 0))
	keep(page.Paste(b, b, 0, 0))
	keep(page.ToBits(g, 100))
	keep(page.Blank(5, 4))
	return l
}

func grayResults(b api.Bits, g api.Gray) []api.Gray {
	var l []api.Gray
	keep := func(x api.Gray, _ api.Errno) { l = append(l, x) }
	keep(page.CutGray(g, api.Box{W: 5, H: 4}))
	keep(page.CutGray(g, api.Box{W: 5, H: 1}))
	for quarters := range 5 {
		keep(page.TurnGray(g, quarters))
	}
	keep(page.Halve(g))
	keep(page.ToGray(b))
	return l
}

func intResults(b api.Bits, g api.Gray) [][]int {
	var l [][]int
	keep := func(x []int, _ api.Errno) { l = append(l, x) }
	keep(page.Histogram(g))
	keep(page.Rows(b))
	keep(page.Columns(b))
	keep(page.Means(g, 0))
	keep(page.Means(g, 2))
	return l
}

// TestArgumentsStay overwrites all results, and their unused capacity: no argument changes, and no later result.
func TestArgumentsStay(t *testing.T) {
	b, c, g := spareBits(), spareBits(), spareGray()
	oldB, oldC, oldG := whole(b.P), whole(c.P), whole(g.P)
	bits, grays, ints := bitsResults(b, c, g), grayResults(b, g), intResults(b, g)
	for _, x := range bitsResults(b, c, g) {
		p := x.P[:cap(x.P)]
		for i := range p {
			p[i] = !p[i]
		}
	}
	for _, x := range grayResults(b, g) {
		p := x.P[:cap(x.P)]
		for i := range p {
			p[i]++
		}
	}
	for _, x := range intResults(b, g) {
		p := x[:cap(x)]
		for i := range p {
			p[i]++
		}
	}
	page.Ink(b, api.Box{W: 5, H: 4})
	page.Bounds(b)
	page.Differ(b, c)
	page.Print(b)
	if !slices.Equal(oldB, whole(b.P)) || !slices.Equal(oldC, whole(c.P)) || !slices.Equal(oldG, whole(g.P)) {
		t.Error("an argument was changed")
	}
	if !slices.EqualFunc(bits, bitsResults(b, c, g), sameBits) || !slices.EqualFunc(grays, grayResults(b, g), sameGray) {
		t.Error("a page comes out otherwise the next time")
	}
	if !slices.EqualFunc(ints, intResults(b, g), slices.Equal) {
		t.Error("a list comes out otherwise the next time")
	}
}

func TestFilesStay(t *testing.T) {
	b, g := spareBits(), spareGray()
	oldB, oldG := whole(b.P), whole(g.P)
	grayFile, _ := page.Encode(g)
	bitsFile, _ := page.Pack(b)
	grayWant, bitsWant := whole(grayFile), whole(bitsFile)
	x, _ := page.Decode(grayFile)
	y, _ := page.Unpack(bitsFile)
	for i := range x.P {
		x.P[i]++
		y.P[i] = !y.P[i]
	}
	if !bytes.Equal(grayWant, whole(grayFile)) || !bytes.Equal(bitsWant, whole(bitsFile)) {
		t.Error("a file was changed")
	}
	clear(grayFile)
	clear(bitsFile)
	if !slices.Equal(oldB, whole(b.P)) || !slices.Equal(oldG, whole(g.P)) {
		t.Error("a page was changed")
	}
	if again, _ := page.Encode(g); !bytes.Equal(again, grayWant[:len(again)]) {
		t.Error("Encode writes otherwise the next time")
	}
	if again, _ := page.Pack(b); !bytes.Equal(again, bitsWant[:len(again)]) {
		t.Error("Pack writes otherwise the next time")
	}
}
