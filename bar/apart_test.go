package bar_test

import (
	"slices"
	"testing"

	"flatbed/api"
	"flatbed/bar"
)

// spare fills the unused capacity of a list, so that what is written there is seen.
func spare[T any](l []T, with T) []T { return append(slices.Clone(l), with, with, with)[:len(l)] }

func whole[T any](l []T) []T { return slices.Clone(l[:cap(l)]) }

// spoil overwrites a result, and its unused capacity.
func spoil[T any](l []T, with T) {
	l = l[:cap(l)]
	for i := range l {
		l[i] = with
	}
}

// results are what calls return; they are overwritten once they are kept.
func results(t *testing.T, b api.Bits, runs []int, codes []api.Code, modules string) (bits [][]bool, ints [][]int, lists [][]api.Code) {
	t.Helper()
	for range 2 {
		p := drawn(t, modules, 2, 2, 3)
		bits = append(bits, slices.Clone(p.P))
		spoil(p.P, true)
		r, e := bar.Runs(b, 0)
		ints = append(ints, slices.Clone(r))
		spoil(r, -1)
		if m, f := bar.Units(runs, api.Code39); e != api.OK || f != api.OK || m != modules {
			t.Fatal(e, f, m)
		}
		bar.Units(runs, api.CodeEAN)
		for _, call := range []func() ([]api.Code, api.Errno){
			func() ([]api.Code, api.Errno) { return bar.ReadRow(b, 0) },
			func() ([]api.Code, api.Errno) { return bar.Find(b, 1) },
			func() ([]api.Code, api.Errno) { return bar.Vote(codes) },
			func() ([]api.Code, api.Errno) { return bar.Vote(codes[:1]) },
		} {
			l, e := call()
			if e != api.OK || len(l) == 0 {
				t.Fatal(e)
			}
			lists = append(lists, slices.Clone(l))
			spoil(l, api.Code{Text: "spoilt"})
		}
	}
	return bits, ints, lists
}

// TestArgumentsStay overwrites all results, and calls again: no argument changes, and no later result.
func TestArgumentsStay(t *testing.T) {
	modules := modules39(t, "SPARE")
	b := drawn(t, modules, 1, 2, 1)
	b.P = spare(b.P, true)
	runs := spare(runsOf(modules, 3), 77)
	codes := spare([]api.Code{seen(2, "b", 3, 3, 3, 3), seen(1, "a", 2, 2, 2, 2), seen(2, "b", 1, 5, 9, 1), goodCode()}, seen(1, "z", 0, 0, 0, 1))
	oldBits, oldRuns, oldCodes := whole(b.P), whole(runs), whole(codes)
	bits, ints, lists := results(t, b, runs, codes, modules)
	bits2, ints2, lists2 := results(t, b, runs, codes, modules)
	if !slices.Equal(oldBits, whole(b.P)) || !slices.Equal(oldRuns, whole(runs)) || !slices.Equal(oldCodes, whole(codes)) {
		t.Error("an argument was changed")
	}
	if !slices.Equal(bits[0], bits[1]) || !slices.EqualFunc(bits, bits2, slices.Equal) || !slices.Equal(ints[0], ints[1]) || !slices.EqualFunc(ints, ints2, slices.Equal) {
		t.Error("a page or runs come out otherwise the next time")
	}
	if !slices.EqualFunc(lists[:4], lists[4:], slices.Equal) || !slices.EqualFunc(lists, lists2, slices.Equal) {
		t.Error("codes come out otherwise the next time")
	}
}
