package bar_test

import (
	"testing"

	"flatbed/api"
	"flatbed/bar"
)

// TestBadPages has other wrong arguments besides the page, too: the error of the page comes first.
func TestBadPages(t *testing.T) {
	for size, want := range map[[2]int]api.Errno{
		{0, 0}: api.ErrRange, {-1, -3}: api.ErrRange, {3, 0}: api.ErrRange, {0, 3}: api.ErrRange,
		{4001, 1}: api.ErrRange, {1, 4001}: api.ErrRange, {leastInt, leastInt}: api.ErrRange,
		{mostInt, mostInt}: api.ErrRange, {1 << 32, 3}: api.ErrRange, {3, 1<<32 + 1}: api.ErrRange,
		{1025, 1024}: api.ErrLarge, {4000, 263}: api.ErrLarge, {4000, 4000}: api.ErrLarge,
		{2, 2}: api.ErrForm, {1, 2}: api.ErrForm, {1024, 1024}: api.ErrForm,
	} {
		for _, b := range []api.Bits{{W: size[0], H: size[1], P: make([]bool, 3)}, {W: size[0], H: size[1]}} {
			for _, n := range []int{0, 1, -1, 3, 4001, mostInt, leastInt} {
				r, e := bar.Runs(b, n)
				failList(t, "Runs", r, e, want)
				l, e := bar.ReadRow(b, n)
				failList(t, "ReadRow", l, e, want)
				l, e = bar.Find(b, n)
				failList(t, "Find", l, e, want)
			}
		}
	}
}
