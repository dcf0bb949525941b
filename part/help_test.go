package part_test

import (
	"slices"
	"strings"
	"testing"

	"flatbed/api"
)

const (
	mostInt  = 1<<63 - 1
	leastInt = -1 << 63
)

func draw(rows ...string) api.Bits {
	b := api.Bits{W: len(rows[0]), H: len(rows)}
	for _, c := range strings.Join(rows, "") {
		b.P = append(b.P, c == '#')
	}
	return b
}

func plain(w, h int, ink bool) api.Bits {
	return api.Bits{W: w, H: h, P: slices.Repeat([]bool{ink}, w*h)}
}

// pattern has ink where has says so.
func pattern(w, h int, has func(x, y int) bool) api.Bits {
	b := plain(w, h, false)
	for i := range b.P {
		b.P[i] = has(i%w, i/w)
	}
	return b
}

// chance is a number from 0 to 255 that hangs on its arguments only, and looks alike nowhere.
func chance(seed, i int) int {
	x := uint32(i)*2654435761 + uint32(seed)*40503
	return int((x ^ x>>15) * 2246822519 >> 24)
}

// mixedBits has ink in about dark of 256 pixels.
func mixedBits(w, h, dark int) api.Bits {
	return pattern(w, h, func(x, y int) bool { return chance(w, y*w+x) < dark })
}

// grown has for each pixel of a page a patch of times by times ones, and as many pixels without ink between two patches
// as chance tells for their columns and rows, so that there are gaps of several sizes.
func grown(b api.Bits, times int) api.Bits {
	places := func(n int) []int {
		l := []int{}
		for i, gap := 0, 0; i < n; i++ {
			l = append(l, slices.Repeat([]int{i}, times)...)
			gap = chance(b.H, i) % 4
			l = append(l, slices.Repeat([]int{-1}, gap)...)
		}
		return l
	}
	columns, rows := places(b.W), places(b.H)
	return pattern(len(columns), len(rows), func(x, y int) bool {
		return columns[x] >= 0 && rows[y] >= 0 && b.P[rows[y]*b.W+columns[x]]
	})
}

// eachMixed gives pages of many sizes, of very little to very much ink, of single pixels and of patches.
func eachMixed(visit func(b api.Bits)) {
	for _, size := range [][2]int{{1, 1}, {1, 9}, {9, 1}, {3, 3}, {4, 7}, {13, 11}, {26, 17}} {
		for _, dark := range []int{6, 20, 50, 90, 128, 200, 250} {
			b := mixedBits(size[0], size[1], dark)
			visit(b)
			if b.W < 20 {
				visit(grown(b, 1))
				visit(grown(b, 2))
			}
		}
	}
}

// eachBox gives boxes of a page: all of it, and parts of several sizes.
func eachBox(b api.Bits, visit func(box api.Box)) {
	visit(api.Box{W: b.W, H: b.H})
	for i := range 6 {
		w, h := 1+chance(i, b.W)%b.W, 1+chance(b.H, i)%b.H
		visit(api.Box{X: chance(1, i) % (b.W - w + 1), Y: chance(2, i) % (b.H - h + 1), W: w, H: h})
	}
}

// goodSizes are the least size, and sizes at the limits.
func goodSizes() [][2]int {
	return [][2]int{{1, 1}, {4000, 1}, {1, 4000}, {4000, 262}, {262, 4000}, {1024, 1024}}
}

// wrongNumbers are outside of every range that does not reach to least and most, also if they are cut to 32 bits.
func wrongNumbers(least, most int) []int {
	return []int{least - 1, most + 1, -1 << 31, 1 << 31, 1 << 32, 1<<32 + most, -1 << 32, leastInt, leastInt + 1, mostInt, mostInt / 2}
}

// wrongBoxes are not in a page of w by h.
func wrongBoxes(w, h int) []api.Box {
	return []api.Box{
		{}, {W: 1}, {H: 1}, {W: -1, H: 1}, {W: 1, H: -1}, {X: 1, Y: 1, W: -1, H: -1},
		{X: -1, W: 1, H: 1}, {Y: -1, W: 1, H: 1}, {X: -1, W: w + 1, H: h}, {W: w + 1, H: h}, {W: w, H: h + 1},
		{X: 1, W: w, H: h}, {Y: 1, W: w, H: h}, {X: w, W: 1, H: 1}, {Y: h, W: 1, H: 1},
		{X: mostInt, W: 1, H: 1}, {Y: mostInt, W: 1, H: 1}, {W: mostInt, H: 1}, {W: 1, H: mostInt},
		{X: mostInt, W: mostInt, H: 1}, {Y: mostInt, W: 1, H: mostInt}, {X: leastInt, Y: leastInt, W: leastInt, H: leastInt},
		{X: 1 << 32, W: 1, H: 1}, {W: 1<<32 + 1, H: 1}, {W: 1, H: 1<<32 + 1}, {X: 1, Y: 1, W: mostInt, H: mostInt},
	}
}

func sameBits(a, b api.Bits) bool { return a.W == b.W && a.H == b.H && slices.Equal(a.P, b.P) }

func wantBits(t *testing.T, what string, got api.Bits, e api.Errno, want api.Bits) {
	t.Helper()
	if e != api.OK || !sameBits(got, want) {
		t.Errorf("%s: error %d, got%s\nwant%s", what, e, picture(got), picture(want))
	}
}

// wantList wants a list, and returns whether it was there.
func wantList[T comparable](t *testing.T, what string, got []T, e api.Errno, want []T) bool {
	t.Helper()
	if e != api.OK || !slices.Equal(got, want) {
		t.Errorf("%s: error %d, got %v\nwant %v", what, e, got, want)
		return false
	}
	return true
}

func wantInt(t *testing.T, what string, got int, e api.Errno, want int) {
	t.Helper()
	if e != api.OK || got != want {
		t.Errorf("%s: got %d, error %d; want %d", what, got, e, want)
	}
}

func picture(b api.Bits) string {
	text := ""
	for i, ink := range b.P {
		if i%b.W == 0 {
			text += "\n"
		}
		text += map[bool]string{false: ".", true: "#"}[ink]
	}
	return text
}

// The following ones want an error, and the zero value of what else is returned.

func failBits(t *testing.T, what string, got api.Bits, e, want api.Errno) {
	t.Helper()
	if e != want || !sameBits(got, api.Bits{}) {
		t.Errorf("%s: got %d by %d, error %d; want error %d alone", what, got.W, got.H, e, want)
	}
}

func failList[T any](t *testing.T, what string, got []T, e, want api.Errno) {
	t.Helper()
	if e != want || len(got) != 0 {
		t.Errorf("%s: got %d of a list, error %d; want error %d alone", what, len(got), e, want)
	}
}

func failInt(t *testing.T, what string, got int, e, want api.Errno) {
	t.Helper()
	if e != want || got != 0 {
		t.Errorf("%s: got %d, error %d; want error %d alone", what, got, e, want)
	}
}
