package part_test

import (
	"slices"
	"testing"

	"flatbed/api"
	"flatbed/part"
)

// The unused capacity of the arguments is filled, so that what is written there is seen.
func spareBits() api.Bits {
	b := draw("##.#....#", "#.##.###.", ".........", "#.#.##..#", "####..#.#", ".........", "#########")
	b.P = append(b.P, true, false, true, true)[:63]
	return b
}

func whole[T any](p []T) []T { return slices.Clone(p[:cap(p)]) }

// boxResults are lists of boxes that calls make of these arguments.
func boxResults(b api.Bits, l []api.Block) [][]api.Box {
	box := api.Box{W: b.W, H: b.H}
	results := [][]api.Box{part.Flat(l)}
	keep := func(l []api.Box, _ api.Errno) { results = append(results, l) }
	keep(part.Split(b, box, 1, 1))
	keep(part.Split(b, box, 9, 9))
	keep(part.Rows(b, box, 1))
	keep(part.Words(b, box, 1))
	return results
}

func intResults(l []api.Box) [][]int {
	o, _ := part.Order(l, 1, 1)
	close, _ := part.Groups(l, 1, 1)
	alone, _ := part.Groups(l, 0, 0)
	return append(append([][]int{o}, close...), alone...)
}

// spoil overwrites a result, and its unused capacity.
func spoil[T any](l []T, with T) {
	l = l[:cap(l)]
	for i := range l {
		l[i] = with
	}
}

func TestPagesStay(t *testing.T) {
	b := spareBits()
	old := whole(b.P)
	rails, _ := part.Rules(b, 2)
	oldRails := whole(rails)
	for _, l := range [][]api.Rail{rails, nil} {
		c, e := part.Without(b, l)
		want := slices.Clone(c.P)
		if e != api.OK {
			t.Fatal("Without", e)
		}
		spoil(c.P, true)
		if c, _ = part.Without(b, l); !slices.Equal(c.P, want) {
			t.Error("Without comes out otherwise the next time")
		}
	}
	if !slices.Equal(rails, oldRails[:len(rails)]) || len(rails) == 0 {
		t.Error("the rails were changed", rails)
	}
	spoil(rails, api.Rail{})
	pieces, _ := part.Pieces(b)
	spoil(pieces, api.Piece{})
	part.Gap(b, api.Box{W: 9, H: 7})
	part.Base(b, api.Box{W: 9, H: 7})
	if !slices.Equal(old, whole(b.P)) {
		t.Error("the page was changed")
	}
}

func TestListsStay(t *testing.T) {
	b := spareBits()
	old := whole(b.P)
	ways := api.Ways{Least: 1, GapX: 2, GapY: 1, Line: 1, Word: 1}
	blocks, e := part.Layout(b, ways)
	if e != api.OK {
		t.Fatal("Layout", e)
	}
	again, _ := part.Layout(b, ways)
	want := boxResults(b, blocks)
	for _, l := range boxResults(b, blocks) {
		spoil(l, api.Box{})
	}
	if !slices.EqualFunc(want, boxResults(b, blocks), slices.Equal) || !sameBlocks(blocks, again) {
		t.Error("a list of boxes comes out otherwise the next time, or the blocks were changed")
	}
	boxes := append(slices.Clone(want[0]), api.Box{X: 1, W: 7}, api.Box{Y: 2})[:len(want[0])]
	oldBoxes := whole(boxes)
	for i := range intResults(boxes) {
		wantInts := intResults(boxes)
		got := intResults(boxes)
		spoil(got[i], -1)
		for j := range got {
			if j != i && !slices.Equal(got[j], wantInts[j]) {
				t.Error("two lists share memory", i, j)
			}
		}
	}
	part.Hull(boxes)
	if !slices.Equal(oldBoxes, whole(boxes)) || !slices.Equal(old, whole(b.P)) {
		t.Error("an argument was changed")
	}
}

// TestLayoutSharesNothing overwrites one list of a layout at a time: the others stay.
func TestLayoutSharesNothing(t *testing.T) {
	ways := api.Ways{Least: 1, GapX: 1, GapY: 4, Line: 1, Word: 1}
	layout := func() []api.Block {
		l, e := part.Layout(grown(spareBits(), 2), ways)
		if e != api.OK || len(l) < 2 {
			t.Fatal("Layout", l, e)
		}
		return l
	}
	want := layout()
	for i := range want {
		for j := range want[i].Lines {
			got := layout()
			spoil(got[i].Lines[j].Words, api.Box{})
			got[i].Lines[j].Words = want[i].Lines[j].Words
			if !sameBlocks(got, want) {
				t.Error("the words of a line share memory with others", i, j)
			}
		}
		got := layout()
		spoil(got[i].Lines, api.TextLine{})
		got[i].Lines = want[i].Lines
		if !sameBlocks(got, want) {
			t.Error("the lines of a block share memory with others", i)
		}
	}
}
