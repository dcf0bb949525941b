package skew_test

import (
	"testing"

	"flatbed/api"
	"flatbed/skew"
)

// Besides the page, other arguments are wrong here, too: the error of the page comes first.

// eachBadPage gives pages with each of the three errors.
func eachBadPage(try func(b api.Bits, g api.Gray, want api.Errno)) {
	for size, want := range map[[2]int]api.Errno{
		{0, 0}: api.ErrRange, {-1, -3}: api.ErrRange, {3, 0}: api.ErrRange, {0, 3}: api.ErrRange,
		{4001, 1}: api.ErrRange, {1, 4001}: api.ErrRange, {leastInt, leastInt}: api.ErrRange,
		{mostInt, mostInt}: api.ErrRange, {1 << 32, 3}: api.ErrRange, {3, 1<<32 + 1}: api.ErrRange,
		{1025, 1024}: api.ErrLarge, {4000, 263}: api.ErrLarge, {4000, 4000}: api.ErrLarge,
		{2, 2}: api.ErrForm, {1, 2}: api.ErrForm, {1024, 1024}: api.ErrForm,
	} {
		b := api.Bits{W: size[0], H: size[1], P: make([]bool, 3)}
		g := api.Gray{W: size[0], H: size[1], P: make([]byte, 3)}
		try(b, g, want)
		b.P, g.P = nil, nil
		try(b, g, want)
	}
}

func TestBadPages(t *testing.T) {
	eachBadPage(func(b api.Bits, g api.Gray, want api.Errno) {
		for _, n := range []int{0, 300, -1, mostInt} {
			x, e := skew.Lean(b, n)
			failBits(t, "Lean", x, e, want)
			x, e = skew.Slant(b, n)
			failBits(t, "Slant", x, e, want)
			l, e := skew.Profile(b, n)
			failInts(t, "Profile", l, e, want)
			s, e := skew.Score(b, n)
			failInt(t, "Score", s, e, want)
			s, e = skew.Find(b, n)
			failInt(t, "Find", s, e, want)
			s, e = skew.FindSlant(b, n)
			failInt(t, "FindSlant", s, e, want)
			x, s, e = skew.Straight(b, n)
			failBits(t, "Straight", x, e, want)
			failInt(t, "Straight", s, e, want)
			x, e = skew.Centre(b, n, 4001)
			failBits(t, "Centre", x, e, want)
			box, e := skew.Sheet(g, n, n)
			failBox(t, box, e, want)
		}
		n, e := skew.Upright(b)
		failInt(t, "Upright", n, e, want)
		if m, e := skew.Margins(b); e != want || m != (api.Margins{}) {
			t.Error("Margins", m, e, want)
		}
	})
}

// TestBadPagesOfAlign has one or two bad pages: the error of the first bad one is returned, whichever it is.
func TestBadPagesOfAlign(t *testing.T) {
	eachBadPage(func(b api.Bits, _ api.Gray, want api.Errno) {
		others := []api.Bits{draw("#"), {}, {W: 4000, H: 4000}, {W: 1, H: 2}}
		for _, other := range others {
			if x, y, n, e := skew.Align(b, other, 9); x != 0 || y != 0 || n != 0 || e != want {
				t.Error("Align", x, y, n, e, want)
			}
		}
		if x, y, n, e := skew.Align(others[0], b, -1); x != 0 || y != 0 || n != 0 || e != want {
			t.Error("Align", x, y, n, e, want)
		}
	})
}
