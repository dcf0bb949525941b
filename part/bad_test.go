package part_test

import (
	"testing"

	"flatbed/api"
	"flatbed/part"
)

// eachBadPage gives pages with each of the three errors.
func eachBadPage(visit func(b api.Bits, want api.Errno)) {
	for size, want := range map[[2]int]api.Errno{
		{0, 0}: api.ErrRange, {-1, -3}: api.ErrRange, {3, 0}: api.ErrRange, {0, 3}: api.ErrRange,
		{4001, 1}: api.ErrRange, {1, 4001}: api.ErrRange, {leastInt, leastInt}: api.ErrRange,
		{mostInt, mostInt}: api.ErrRange, {1 << 32, 3}: api.ErrRange, {3, 1<<32 + 1}: api.ErrRange,
		{1025, 1024}: api.ErrLarge, {4000, 263}: api.ErrLarge, {4000, 4000}: api.ErrLarge,
		{2, 2}: api.ErrForm, {1, 2}: api.ErrForm, {1024, 1024}: api.ErrForm,
	} {
		visit(api.Bits{W: size[0], H: size[1], P: make([]bool, 3)}, want)
		visit(api.Bits{W: size[0], H: size[1]}, want)
	}
}

// TestBadPages has other wrong arguments besides the page, too: the error of the page comes first.
func TestBadPages(t *testing.T) {
	eachBadPage(func(b api.Bits, want api.Errno) {
		p, e := part.Pieces(b)
		failList(t, "Pieces", p, e, want)
		for _, n := range []int{1, 0, -1, mostInt} {
			for _, box := range []api.Box{{W: 1, H: 1}, {}, {W: mostInt, H: n}} {
				l, e := part.Split(b, box, n, n)
				failList(t, "Split", l, e, want)
				l, e = part.Rows(b, box, n)
				failList(t, "Rows", l, e, want)
				l, e = part.Words(b, box, n)
				failList(t, "Words", l, e, want)
				k, e := part.Gap(b, box)
				failInt(t, "Gap", k, e, want)
				k, e = part.Base(b, box)
				failInt(t, "Base", k, e, want)
				c, e := part.Without(b, []api.Rail{{Box: box}})
				failBits(t, "Without", c, e, want)
			}
			r, e := part.Rules(b, n)
			failList(t, "Rules", r, e, want)
			l, e := part.Layout(b, api.Ways{Least: n, GapX: n, GapY: n, Line: n, Word: n})
			failList(t, "Layout", l, e, want)
		}
		c, e := part.Without(b, nil)
		failBits(t, "Without", c, e, want)
	})
}
