package part_test

import (
	"slices"
	"testing"

	"flatbed/api"
	"flatbed/part"
)

const far = api.MaxPlace

// goodBoxes are at the limits of what CheckBox takes.
func goodBoxes() []api.Box {
	return []api.Box{
		{W: 1, H: 1}, {X: far, Y: far, W: 1, H: 1}, {X: -far, Y: -far, W: 1, H: 1}, {W: far, H: far},
		{X: far, Y: -far, W: far, H: far}, {X: -far, Y: far, W: far, H: 1}, {X: 5, Y: -7, W: 3, H: 2},
	}
}

// badBoxes are outside of these limits in one number each, or in several.
func badBoxes() []api.Box {
	l := []api.Box{{}, {X: far + 1, Y: far + 1, W: far + 1, H: far + 1}}
	for _, n := range wrongNumbers(-far, far) {
		l = append(l, api.Box{X: n, W: 1, H: 1}, api.Box{Y: n, W: 1, H: 1}, api.Box{X: n, Y: n, W: n, H: n})
	}
	for _, n := range wrongNumbers(1, far) {
		l = append(l, api.Box{W: n, H: 1}, api.Box{W: 1, H: n}, api.Box{X: 3, Y: 4, W: n, H: n})
	}
	return append(l, api.Box{W: -3, H: 1}, api.Box{W: 1, H: -3})
}

func TestCheckBox(t *testing.T) {
	for _, b := range goodBoxes() {
		if e := part.CheckBox(b); e != api.OK {
			t.Error("CheckBox", b, e)
		}
	}
	for _, b := range badBoxes() {
		if e := part.CheckBox(b); e != api.ErrRange {
			t.Error("CheckBox", b, e)
		}
	}
}

func TestNear(t *testing.T) {
	a := api.Box{X: 10, Y: 20, W: 4, H: 3}
	for _, c := range []struct {
		b      api.Box
		dx, dy int
	}{
		{a, 0, 0},
		{api.Box{X: 14, Y: 20, W: 1, H: 1}, 0, 0},
		{api.Box{X: 15, Y: 20, W: 1, H: 1}, 1, 0},
		{api.Box{X: 9, Y: 20, W: 1, H: 1}, 0, 0},
		{api.Box{X: 8, Y: 20, W: 1, H: 1}, 1, 0},
		{api.Box{X: 13, Y: 23, W: 1, H: 1}, 0, 0},
		{api.Box{X: 13, Y: 25, W: 1, H: 1}, 0, 2},
		{api.Box{X: 13, Y: 17, W: 1, H: 3}, 0, 0},
		{api.Box{X: 13, Y: 17, W: 1, H: 2}, 0, 1},
		{api.Box{X: 20, Y: 30, W: 5, H: 6}, 6, 7},
		{api.Box{X: -5, Y: -6, W: 5, H: 6}, 10, 20},
		{api.Box{X: 11, Y: 21, W: 1, H: 1}, 0, 0},
		{api.Box{X: 0, Y: 0, W: 100, H: 100}, 0, 0},
		{api.Box{X: far, Y: far, W: 1, H: 1}, far - 14, far - 23},
		{api.Box{X: -far, Y: -far, W: far, H: 1}, 10, far + 19},
	} {
		if dx, dy := part.Near(a, c.b); dx != c.dx || dy != c.dy {
			t.Error("Near", c.b, dx, dy)
		}
		if dx, dy := part.Near(c.b, a); dx != c.dx || dy != c.dy {
			t.Error("Near, the other way", c.b, dx, dy)
		}
	}
	if dx, dy := part.Near(api.Box{X: -far, Y: far, W: 1, H: 1}, api.Box{X: far, Y: -far, W: 1, H: 1}); dx != 2*far-1 || dy != 2*far-1 {
		t.Error("Near", dx, dy)
	}
	for _, b := range badBoxes() {
		part.Near(a, b) // what it tells of them is not specified, but it does not panic
		part.Near(b, b)
	}
}

func TestHull(t *testing.T) {
	for _, c := range []struct {
		l    []api.Box
		want api.Box
	}{
		{[]api.Box{{X: 3, Y: 4, W: 5, H: 6}}, api.Box{X: 3, Y: 4, W: 5, H: 6}},
		{[]api.Box{{X: 3, Y: 4, W: 5, H: 6}, {X: 4, Y: 5, W: 1, H: 1}}, api.Box{X: 3, Y: 4, W: 5, H: 6}},
		{[]api.Box{{X: 3, Y: 4, W: 1, H: 1}, {X: -2, Y: 5, W: 1, H: 9}, {X: 1, Y: -7, W: 8, H: 1}}, api.Box{X: -2, Y: -7, W: 11, H: 21}},
		{goodBoxes(), api.Box{X: -far, Y: -far, W: 3 * far, H: 2*far + 1}},
		{slices.Repeat([]api.Box{{X: 1, Y: 2, W: 3, H: 4}}, api.MaxBoxes), api.Box{X: 1, Y: 2, W: 3, H: 4}},
	} {
		if h, e := part.Hull(c.l); h != c.want || e != api.OK {
			t.Error("Hull", c.l[:1], h, e)
		}
	}
	for _, l := range [][]api.Box{nil, {}} {
		if h, e := part.Hull(l); h != (api.Box{}) || e != api.ErrEmpty {
			t.Error("Hull", h, e)
		}
	}
}

// manyBoxes are n of any places near each other, some of them the same.
func manyBoxes(n, seed, spread int) []api.Box {
	l := make([]api.Box, n)
	for i := range l {
		at := func(k int) int { return chance(seed+k, i) }
		l[i] = api.Box{X: at(0)%spread - spread/3, Y: at(1)%spread - spread/2, W: 1 + at(2)%5, H: 1 + at(3)%4}
	}
	return l
}

// groupsByLabels is P66 word by word.
func groupsByLabels(l []api.Box, dx, dy int) [][]int {
	label := labels(len(l), func(i, j int) bool {
		x, y := part.Near(l[i], l[j])
		return x <= dx && y <= dy
	})
	var groups [][]int
	for first := range l {
		var group []int
		for i := range l {
			if label[i] == first {
				group = append(group, i)
			}
		}
		if len(group) > 0 {
			groups = append(groups, group)
		}
	}
	return groups
}

func wantGroups(t *testing.T, l []api.Box, dx, dy int, want [][]int) {
	t.Helper()
	got, e := part.Groups(l, dx, dy)
	if e != api.OK || !slices.EqualFunc(got, want, slices.Equal) {
		t.Errorf("Groups by %d, %d: error %d, got %v\nwant %v", dx, dy, e, got, want)
	}
}

func TestGroups(t *testing.T) {
	l := []api.Box{{X: 20, W: 2, H: 2}, {X: 0, W: 2, H: 2}, {X: 9, Y: 3, W: 2, H: 2}, {X: 4, W: 3, H: 2}, {X: 12, Y: 6, W: 8, H: 1}}
	wantGroups(t, l, 0, 0, [][]int{{0}, {1}, {2}, {3}, {4}})
	wantGroups(t, l, 2, 0, [][]int{{0}, {1, 3}, {2}, {4}})
	// Both ways have to be short enough: 2 is near 3 by columns, but a row is between.
	wantGroups(t, l, 2, 1, [][]int{{0}, {1, 2, 3, 4}})
	wantGroups(t, l, 1, 1, [][]int{{0}, {1}, {2, 4}, {3}})
	wantGroups(t, l, 0, 4, [][]int{{0, 4}, {1}, {2}, {3}})
	wantGroups(t, l, 2, 4, [][]int{{0, 1, 2, 3, 4}})
	wantGroups(t, l, far, far, [][]int{{0, 1, 2, 3, 4}})
	wantGroups(t, l, far, 0, [][]int{{0, 1, 3}, {2}, {4}})
	wantGroups(t, nil, 0, 0, nil)
	wantGroups(t, l[:1], far, far, [][]int{{0}})
	// The farthest boxes have more than MaxPlace columns between.
	wantGroups(t, []api.Box{{X: -far, W: 1, H: 1}, {X: 1, W: 1, H: 1}, {X: 2, W: 1, H: 1}}, far, 0, [][]int{{0, 1, 2}})
	wantGroups(t, []api.Box{{X: -far, W: 1, H: 1}, {X: 2, W: 1, H: 1}}, far, 0, [][]int{{0}, {1}})
	for seed, n := range []int{2, 5, 20, 60, 120} {
		l := manyBoxes(n, seed, 60)
		for _, d := range [][2]int{{0, 0}, {1, 0}, {0, 2}, {2, 2}, {5, 1}, {0, far}} {
			wantGroups(t, l, d[0], d[1], groupsByLabels(l, d[0], d[1]))
		}
	}
}

// badLists have one or two errors; the box that is bad stands at the start, in the middle or at the end.
func eachBadList(visit func(l []api.Box, want api.Errno)) {
	good := goodBoxes()
	for _, b := range badBoxes() {
		visit([]api.Box{b}, api.ErrRange)
		visit(append([]api.Box{b}, good...), api.ErrRange)
		visit(append(slices.Clone(good), b), api.ErrRange)
		visit(slices.Insert(slices.Clone(good), 2, b), api.ErrRange)
	}
	visit(slices.Repeat(good[:1], api.MaxBoxes+1), api.ErrLarge)
	visit(slices.Repeat(badBoxes()[:1], api.MaxBoxes+1), api.ErrLarge)
	visit(make([]api.Box, api.MaxBoxes), api.ErrRange)
}

func TestBadLists(t *testing.T) {
	eachBadList(func(l []api.Box, want api.Errno) {
		if h, e := part.Hull(l); h != (api.Box{}) || e != want {
			t.Error("Hull", h, e, want)
		}
		for _, n := range []int{-1, 0, 1, far + 1} {
			g, e := part.Groups(l, n, n)
			failList(t, "Groups", g, e, want)
			o, e := part.Order(l, n, n)
			failList(t, "Order", o, e, want)
		}
	})
}

func TestGroupsOutOfRange(t *testing.T) {
	for _, n := range wrongNumbers(0, far) {
		for _, l := range [][]api.Box{nil, goodBoxes()} {
			g, e := part.Groups(l, n, 0)
			failList(t, "Groups", g, e, api.ErrRange)
			g, e = part.Groups(l, far, n)
			failList(t, "Groups", g, e, api.ErrRange)
			g, e = part.Groups(l, n, n)
			failList(t, "Groups", g, e, api.ErrRange)
		}
	}
}
