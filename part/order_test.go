package part_test

import (
	"slices"
	"testing"

	"flatbed/api"
	"flatbed/part"
)

// orderByPlaces is P68 word by word, for the boxes of which the numbers are told.
func orderByPlaces(l []api.Box, numbers []int, gapx, gapy int) []int {
	left, right, top, bottom := mostInt, leastInt, mostInt, leastInt
	for _, i := range numbers {
		left, right = min(left, l[i].X), max(right, l[i].X+l[i].W)
		top, bottom = min(top, l[i].Y), max(bottom, l[i].Y+l[i].H)
	}
	anyOf := func(has func(b api.Box) bool) bool {
		return slices.ContainsFunc(numbers, func(i int) bool { return has(l[i]) })
	}
	x, wide := widestEmpty(left, right, gapx, func(x int) bool {
		return anyOf(func(b api.Box) bool { return x >= b.X && x < b.X+b.W })
	})
	y, high := widestEmpty(top, bottom, gapy, func(y int) bool {
		return anyOf(func(b api.Box) bool { return y >= b.Y && y < b.Y+b.H })
	})
	if wide == 0 && high == 0 {
		return inReadingOrder(l, numbers)
	}
	var first, second []int
	for _, i := range numbers {
		ahead := l[i].Y < y
		if high == 0 || wide*gapy > high*gapx {
			ahead = l[i].X < x
		}
		if ahead {
			first = append(first, i)
		} else {
			second = append(second, i)
		}
	}
	return append(orderByPlaces(l, first, gapx, gapy), orderByPlaces(l, second, gapx, gapy)...)
}

// inReadingOrder puts numbers in the order of Y, X, H, W and of the numbers, by exchanging neighbours.
func inReadingOrder(l []api.Box, numbers []int) []int {
	order := slices.Clone(numbers)
	key := func(i int) []int { return []int{l[i].Y, l[i].X, l[i].H, l[i].W, i} }
	for range order {
		for k := 1; k < len(order); k++ {
			if slices.Compare(key(order[k]), key(order[k-1])) < 0 {
				order[k], order[k-1] = order[k-1], order[k]
			}
		}
	}
	return order
}

func allNumbers(n int) []int {
	var l []int
	for i := range n {
		l = append(l, i)
	}
	return l
}

func wantOrder(t *testing.T, l []api.Box, gapx, gapy int, want ...int) {
	t.Helper()
	o, e := part.Order(l, gapx, gapy)
	wantList(t, "Order", o, e, want)
}

func TestOrder(t *testing.T) {
	wantOrder(t, nil, 1, 1)
	wantOrder(t, []api.Box{{X: -far, Y: far, W: far, H: far}}, 4000, 4000, 0)
	// Two columns of two boxes each: which way they are read hangs on gapx and gapy.
	l := []api.Box{{X: 10, Y: 10, W: 5, H: 5}, {X: -3, Y: 10, W: 5, H: 5}, {X: 10, W: 5, H: 5}, {X: -3, W: 5, H: 5}}
	wantOrder(t, l, 1, 1, 3, 1, 2, 0)
	wantOrder(t, l, 8, 5, 3, 2, 1, 0)
	wantOrder(t, l, 8, 6, 3, 1, 2, 0)
	wantOrder(t, l, 9, 5, 3, 2, 1, 0)
	// 8 * 5 is equal to 5 * 8, 8 * 6 is greater than 5 * 9.
	wantOrder(t, l, 7, 5, 3, 1, 2, 0)
	wantOrder(t, l, 9, 6, 3, 2, 1, 0)
	// Boxes that touch have nothing between; a stretch can be less than the least one.
	wantOrder(t, []api.Box{{X: 5, Y: 1, W: 5, H: 1}, {Y: 2, W: 5, H: 1}}, 1, 1, 0, 1)
	wantOrder(t, []api.Box{{X: 6, Y: 1, W: 5, H: 1}, {Y: 2, W: 5, H: 1}}, 1, 1, 1, 0)
	wantOrder(t, []api.Box{{X: 6, Y: 1, W: 5, H: 1}, {Y: 2, W: 5, H: 1}}, 2, 1, 0, 1)
	wantOrder(t, []api.Box{{X: 1, Y: 6, W: 1, H: 5}, {X: 2, W: 1, H: 5}}, 1, 1, 1, 0)
	// A wide box ahead closes what is between those that begin behind it.
	wantOrder(t, []api.Box{{X: 8, Y: 3, W: 1, H: 3}, {X: 0, Y: 4, W: 9, H: 3}, {X: 2, Y: 5, W: 1, H: 3}}, 1, 1, 0, 1, 2)
}

// TestOrderOfEqualStretches cuts the first of those that are equally wide, as is seen by how what is left is read.
func TestOrderOfEqualStretches(t *testing.T) {
	l := []api.Box{{X: 4, Y: 2, W: 1, H: 1}, {X: 2, Y: 2, W: 1, H: 1}, {X: 4, W: 1, H: 1}, {X: 2, W: 1, H: 1}, {W: 1, H: 3}}
	wantOrder(t, l, 1, 1, 4, 3, 2, 1, 0)
	l = []api.Box{{Y: 4, W: 1, H: 1}, {X: 2, Y: 4, W: 1, H: 1}, {Y: 2, W: 1, H: 1}, {X: 2, Y: 2, W: 1, H: 1}, {W: 3, H: 1}}
	wantOrder(t, l, 1, 1, 4, 2, 3, 0, 1)
}

// TestOrderWithoutCuts has boxes that overlap.
func TestOrderWithoutCuts(t *testing.T) {
	l := []api.Box{
		{X: 1, Y: 1, W: 9, H: 9}, {X: 0, Y: 1, W: 9, H: 9}, {X: 5, Y: 0, W: 9, H: 9}, {X: 0, Y: 1, W: 8, H: 9},
		{X: 0, Y: 1, W: 9, H: 8}, {X: 0, Y: 1, W: 8, H: 9}, {X: 0, Y: 1, W: 20, H: 8}, {X: -1, Y: 2, W: 8, H: 8},
	}
	wantOrder(t, l, 1, 1, 2, 4, 6, 3, 5, 1, 0, 7)
	slices.Reverse(l)
	wantOrder(t, l, 1, 1, 5, 3, 1, 2, 4, 6, 7, 0)
}

func TestOrderByPlaces(t *testing.T) {
	for seed := range 12 {
		for _, n := range []int{1, 2, 3, 5, 9, 20, 50} {
			for _, spread := range []int{10, 40, 90} {
				l := manyBoxes(n, seed, spread)
				for _, gap := range [][2]int{{1, 1}, {1, 2}, {2, 1}, {3, 3}, {4, 7}, {7, 3}, {4000, 1}, {1, 4000}, {4000, 4000}} {
					o, e := part.Order(l, gap[0], gap[1])
					wantList(t, "Order", o, e, orderByPlaces(l, allNumbers(len(l)), gap[0], gap[1]))
				}
			}
		}
	}
}

// TestOrderOfAnyOrder reads the same boxes in several orders: the boxes come out in the same one.
func TestOrderOfAnyOrder(t *testing.T) {
	read := func(l []api.Box) []api.Box {
		o, e := part.Order(l, 2, 3)
		if e != api.OK || len(o) != len(l) {
			t.Fatal("Order", o, e)
		}
		boxes := make([]api.Box, 0, len(l))
		for _, i := range o {
			boxes = append(boxes, l[i])
		}
		return boxes
	}
	for seed := range 20 {
		l := manyBoxes(30, seed, 50)
		want := read(l)
		slices.Reverse(l)
		if got := read(l); !slices.Equal(got, want) {
			t.Error("reversed", got, want)
		}
		for k := range l {
			l[k], l[chance(seed, k)%len(l)] = l[chance(seed, k)%len(l)], l[k]
		}
		if got := read(l); !slices.Equal(got, want) {
			t.Error("mixed", got, want)
		}
	}
}

func TestOrderOutOfRange(t *testing.T) {
	for _, n := range wrongNumbers(1, 4000) {
		for _, l := range [][]api.Box{nil, goodBoxes()} {
			o, e := part.Order(l, n, 1)
			failList(t, "Order", o, e, api.ErrRange)
			o, e = part.Order(l, 4000, n)
			failList(t, "Order", o, e, api.ErrRange)
			o, e = part.Order(l, n, n)
			failList(t, "Order", o, e, api.ErrRange)
		}
	}
}
