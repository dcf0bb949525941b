package shrink_test

import (
	"slices"
	"strings"
	"testing"

	"flatbed/api"
	"flatbed/shrink"
)

// spare fills the unused capacity of a list, so that what is written there is seen.
func spare[T any](l []T, with T) []T { return append(slices.Clone(l), with, with, with)[:len(l)] }

func whole[T any](l []T) []T { return slices.Clone(l[:cap(l)]) }

// spoil overwrites a result, and its unused capacity.
func spoil[T any](l []T, with T) {
	l = l[:cap(l)]
	for i := range l {
		l[i] = with
	}
}

// A heap has one of each list that functions take.
type heap struct {
	row, above []bool
	runs       []int
	b          api.Bits
	strips     []string
	named      []api.Named
}

func someHeap() heap {
	h := heap{
		row: spare(row(".##..#.#.."), true), above: spare(row("..#..####."), false), runs: spare([]int{0, 2, 3, 1}, 9),
		b: draw("#..#.", ".####", "....."), strips: spare([]string{encodeByPromise(draw("#."), 4), encodeByPromise(draw(".#"), 3)}, "x"),
	}
	h.b.P = spare(h.b.P, true)
	h.named = spare([]api.Named{{Name: "one", Bits: h.b}, named("two", "##")}, named("x", "#"))
	return h
}

// results are what calls return, as texts; they are overwritten once they are kept.
func results(h heap) []string {
	var l []string
	text := func(s string, e api.Errno) { l = append(l, s, string(rune('0'+e))) }
	pixels := func(r []bool, e api.Errno) {
		text(picture(r), e)
		spoil(r, true)
	}
	bits := func(b api.Bits, e api.Errno) { pixels(b.P, e) }
	runs, e := shrink.Runs(h.row)
	for _, run := range runs {
		text(string(rune('0'+run)), e)
	}
	spoil(runs, -1)
	pixels(shrink.FromRuns(h.runs, 6))
	text(shrink.Line(h.row, h.above))
	r, _, e := shrink.ReadLine(lineByPromise(h.row, h.above), h.above)
	pixels(r, e)
	n, e := shrink.Context(h.b, 2, 2)
	text(string(rune(n)), e)
	for kind := 1; kind <= 5; kind++ {
		data, e := shrink.Encode(h.b, kind)
		text(data, e)
		bits(shrink.Decode(data))
		strips, e := shrink.Strips(h.b, 2, kind)
		text(strings.Join(strips, "|"), e)
		spoil(strips, "y")
		archive, e := shrink.Pack(h.named, kind)
		text(archive, e)
		text(shrink.Add(archive, h.named[0], kind))
		text(shrink.Add(archive, api.Named{Name: "new", Bits: h.b}, kind))
		bits(shrink.Take(archive, "one"))
		entries, e := shrink.List(archive)
		for _, entry := range entries {
			text(entry.Name, e)
		}
		spoil(entries, api.Entry{Name: "spoilt"})
	}
	best, _, e := shrink.Best(h.b)
	text(best, e)
	bits(shrink.FromStrips(h.strips))
	return l
}

// TestArgumentsStay overwrites all results, and calls again: no argument changes, and no later result.
func TestArgumentsStay(t *testing.T) {
	h := someHeap()
	old := heap{row: whole(h.row), above: whole(h.above), runs: whole(h.runs), b: api.Bits{P: whole(h.b.P)}, strips: whole(h.strips), named: whole(h.named)}
	first := results(h)
	for range 3 {
		if again := results(h); !slices.Equal(again, first) {
			t.Error("a result comes out otherwise the next time")
		}
	}
	if !slices.Equal(old.row, whole(h.row)) || !slices.Equal(old.above, whole(h.above)) || !slices.Equal(old.runs, whole(h.runs)) || !slices.Equal(old.b.P, whole(h.b.P)) || !slices.Equal(old.strips, whole(h.strips)) {
		t.Error("an argument was changed")
	}
	for i, n := range whole(h.named) {
		if n.Name != old.named[i].Name || !sameBits(n.Bits, old.named[i].Bits) {
			t.Error("an argument was changed")
		}
	}
}

// TestErrorsLeaveNothing has calls with errors between others.
func TestErrorsLeaveNothing(t *testing.T) {
	h := someHeap()
	first := results(h)
	shrink.Decode(framed(3, 8, 4, "\xff\x12\x34"))
	shrink.Decode(framed(4, 8, 4, "\xff\xff\xff\xff"))
	shrink.ReadLine("1110000000", h.above)
	shrink.FromRuns([]int{3, 3, -1}, 9)
	shrink.FromStrips([]string{h.strips[0], "x"})
	shrink.Pack(append(h.named, api.Named{}), 4)
	shrink.Take("FBA1", "one")
	if !slices.Equal(results(h), first) {
		t.Error("an error has left something")
	}
}
