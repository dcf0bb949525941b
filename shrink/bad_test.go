package shrink_test

import (
	"testing"

	"flatbed/api"
	"flatbed/shrink"
)

// TestBadPages has other wrong arguments besides the page, too: the error of the page comes first.
func TestBadPages(t *testing.T) {
	for size, want := range map[[2]int]api.Errno{
		{0, 0}: api.ErrRange, {-1, -3}: api.ErrRange, {3, 0}: api.ErrRange, {0, 3}: api.ErrRange,
		{4001, 1}: api.ErrRange, {1, 4001}: api.ErrRange, {leastInt, leastInt}: api.ErrRange,
		{mostInt, mostInt}: api.ErrRange, {1 << 32, 3}: api.ErrRange, {3, 1<<32 + 1}: api.ErrRange,
		{1025, 1024}: api.ErrLarge, {4000, 263}: api.ErrLarge, {4000, 4000}: api.ErrLarge,
		{2, 2}: api.ErrForm, {1, 2}: api.ErrForm, {1024, 1024}: api.ErrForm, {4, 1}: api.ErrForm,
	} {
		for _, b := range []api.Bits{{W: size[0], H: size[1], P: make([]bool, 3)}, {W: size[0], H: size[1]}} {
			for _, n := range []int{0, 1, -1, 3, 4, 5, 4001, mostInt, leastInt} {
				i, e := shrink.Context(b, n, n)
				failInt(t, "Context", i, e, want)
				data, e := shrink.Encode(b, n)
				failText(t, "Encode", data, e, want)
				l, e := shrink.Strips(b, n, 1)
				failList(t, "Strips", l, e, want)
				l, e = shrink.Strips(b, n, 0)
				failList(t, "Strips", l, e, want)
				archive, e := shrink.Pack([]api.Named{{Name: "a", Bits: b}}, n)
				failText(t, "Pack", archive, e, want)
			}
			data, kind, e := shrink.Best(b)
			failText(t, "Best", data, e, want)
			failInt(t, "Best", kind, e, want)
		}
	}
}
