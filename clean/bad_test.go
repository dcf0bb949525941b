package clean_test

import (
	"testing"

	"flatbed/api"
	"flatbed/clean"
)

// Besides the page, other arguments are wrong here, too: the error of the page comes first.

// eachBadPage gives pages with each of the three errors.
func eachBadPage(try func(b api.Bits, g api.Gray, want api.Errno)) {
	for size, want := range map[[2]int]api.Errno{
		{0, 0}: api.ErrRange, {-1, -3}: api.ErrRange, {3, 0}: api.ErrRange, {0, 3}: api.ErrRange,
		{4001, 1}: api.ErrRange, {1, 4001}: api.ErrRange, {leastInt, leastInt}: api.ErrRange,
		{mostInt, mostInt}: api.ErrRange, {1 << 32, 3}: api.ErrRange, {3, 1<<32 + 1}: api.ErrRange,
		{1025, 1024}: api.ErrLarge, {4000, 263}: api.ErrLarge, {4000, 4000}: api.ErrLarge,
		{2, 2}: api.ErrForm, {1, 2}: api.ErrForm, {1024, 1024}: api.ErrForm,
	} {
		b := api.Bits{W: size[0], H: size[1], P: make([]bool, 3)}
		g := api.Gray{W: size[0], H: size[1], P: make([]byte, 3)}
		try(b, g, want)
		b.P, g.P = nil, nil
		try(b, g, want)
	}
}

func TestBadGrayPages(t *testing.T) {
	eachBadPage(func(_ api.Bits, g api.Gray, want api.Errno) {
		n, e := clean.Level(g)
		failInt(t, "Level", n, e, want)
		b, e := clean.Auto(g)
		failBits(t, "Auto", b, e, want)
		for _, wrong := range [][2]int{{1, 0}, {0, 0}, {1, 1001}} {
			b, e = clean.Local(g, wrong[0], wrong[1])
			failBits(t, "Local", b, e, want)
		}
		for _, wrong := range [][2]int{{0, 255}, {-1, 255}, {0, 256}, {5, 5}} {
			x, e := clean.Stretch(g, wrong[0], wrong[1])
			failGray(t, "Stretch", x, e, want)
		}
		x, e := clean.Middle(g, 6)
		failGray(t, "Middle", x, e, want)
		x, e = clean.Middle(g, 1)
		failGray(t, "Middle", x, e, want)
		x, e = clean.Even(g, 0)
		failGray(t, "Even", x, e, want)
		x, e = clean.Even(g, 1)
		failGray(t, "Even", x, e, want)
	})
}

func TestBadBitsPages(t *testing.T) {
	eachBadPage(func(b api.Bits, _ api.Gray, want api.Errno) {
		for _, n := range []int{1, -1, mostInt} {
			x, e := clean.Spread(b, n)
			failBits(t, "Spread", x, e, want)
			x, e = clean.Shrink(b, n)
			failBits(t, "Shrink", x, e, want)
			x, count, e := clean.Specks(b, n)
			failCounted(t, "Specks", x, count, e, want)
			x, count, e = clean.Holes(b, n)
			failCounted(t, "Holes", x, count, e, want)
			x, count, e = clean.Border(b, n)
			failCounted(t, "Border", x, count, e, want)
			x, count, e = clean.Thin(b, n)
			failCounted(t, "Thin", x, count, e, want)
		}
		x, e := clean.Majority(b)
		failBits(t, "Majority", x, e, want)
		n, e := clean.Strokes(b)
		failInt(t, "Strokes", n, e, want)
	})
}
