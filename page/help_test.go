package page_test

import (
	"slices"
	"strings"
	"testing"

	"flatbed/api"
)

const (
	mostInt  = 1<<63 - 1
	leastInt = -1 << 63
)

// draw makes a page without page.Parse, so that each promise is tested by itself.
func draw(rows ...string) api.Bits {
	b := api.Bits{W: len(rows[0]), H: len(rows)}
	for _, c := range strings.Join(rows, "") {
		b.P = append(b.P, c == '#')
	}
	return b
}

func gray(w, h int, p ...byte) api.Gray { return api.Gray{W: w, H: h, P: p} }

// plain makes a page of any size without ink and without page.Blank.
func plain(w, h int) api.Bits { return api.Bits{W: w, H: h, P: make([]bool, w*h)} }

func plainGray(w, h int) api.Gray { return api.Gray{W: w, H: h, P: make([]byte, w*h)} }

// mixed makes a page that looks alike nowhere, of which each pixel hangs on its place only.
func mixed(w, h int) api.Gray {
	g := plainGray(w, h)
	for i := range g.P {
		x := uint32(i)*2654435761 + uint32(w)
		g.P[i] = byte((x ^ x>>15) * 2246822519 >> 24)
	}
	return g
}

func mixedBits(w, h int) api.Bits {
	b := plain(w, h)
	for i, v := range mixed(w, h).P {
		b.P[i] = v < 100
	}
	return b
}

func sameBits(a, b api.Bits) bool { return a.W == b.W && a.H == b.H && slices.Equal(a.P, b.P) }

func sameGray(a, b api.Gray) bool { return a.W == b.W && a.H == b.H && slices.Equal(a.P, b.P) }

func wantBits(t *testing.T, what string, got api.Bits, e api.Errno, want api.Bits) {
	t.Helper()
	if e != api.OK || !sameBits(got, want) {
		t.Errorf("%s: got %v, error %d; want %v", what, got, e, want)
	}
}

func wantGray(t *testing.T, what string, got api.Gray, e api.Errno, want api.Gray) {
	t.Helper()
	if e != api.OK || !sameGray(got, want) {
		t.Errorf("%s: got %v, error %d; want %v", what, got, e, want)
	}
}

func wantInts(t *testing.T, what string, got []int, e api.Errno, want []int) {
	t.Helper()
	if e != api.OK || !slices.Equal(got, want) {
		t.Errorf("%s: got %v, error %d; want %v", what, got, e, want)
	}
}

// The following ones want an error, and the zero value of what else is returned.

func failBits(t *testing.T, what string, got api.Bits, e, want api.Errno) {
	t.Helper()
	if e != want || !sameBits(got, api.Bits{}) {
		t.Errorf("%s: got %d by %d, error %d; want error %d alone", what, got.W, got.H, e, want)
	}
}

func failGray(t *testing.T, what string, got api.Gray, e, want api.Errno) {
	t.Helper()
	if e != want || !sameGray(got, api.Gray{}) {
		t.Errorf("%s: got %d by %d, error %d; want error %d alone", what, got.W, got.H, e, want)
	}
}

func failInt(t *testing.T, what string, got int, e, want api.Errno) {
	t.Helper()
	if e != want || got != 0 {
		t.Errorf("%s: got %d, error %d; want error %d alone", what, got, e, want)
	}
}

func failInts(t *testing.T, what string, got []int, e, want api.Errno) {
	t.Helper()
	if e != want || len(got) != 0 {
		t.Errorf("%s: got %v, error %d; want error %d alone", what, got, e, want)
	}
}

// boxesOutside are boxes that are not in a page of 3 by 2, also by sums that no int holds.
func boxesOutside() []api.Box {
	return []api.Box{
		{},
		{X: 0, Y: 0, W: 0, H: 1}, {X: 0, Y: 0, W: 1, H: 0},
		{X: 1, Y: 1, W: -1, H: 1}, {X: 1, Y: 1, W: 1, H: -1},
		{X: -1, Y: 0, W: 2, H: 1}, {X: 0, Y: -1, W: 1, H: 2},
		{X: 0, Y: 0, W: 4, H: 2}, {X: 0, Y: 0, W: 3, H: 3},
		{X: 1, Y: 0, W: 3, H: 2}, {X: 0, Y: 1, W: 3, H: 2},
		{X: 3, Y: 0, W: 1, H: 1}, {X: 0, Y: 2, W: 1, H: 1},
		{X: mostInt, Y: 0, W: 1, H: 1}, {X: 0, Y: mostInt, W: 1, H: 1},
		{X: 1, Y: 0, W: mostInt, H: 1}, {X: 0, Y: 1, W: 1, H: mostInt},
		{X: mostInt, Y: mostInt, W: mostInt, H: mostInt},
		{X: leastInt, Y: 0, W: mostInt, H: 1}, {X: 0, Y: leastInt, W: 1, H: mostInt},
		{X: 0, Y: 0, W: leastInt, H: leastInt},
	}
}

// badSizes are sizes with the error of each.
func badSizes() map[[2]int]api.Errno {
	return map[[2]int]api.Errno{
		{0, 5}: api.ErrRange, {5, 0}: api.ErrRange, {0, 0}: api.ErrRange,
		{-1, 5}: api.ErrRange, {5, -1}: api.ErrRange, {-2, -2}: api.ErrRange,
		{4001, 1}: api.ErrRange, {1, 4001}: api.ErrRange, {4001, 4001}: api.ErrRange,
		{mostInt, mostInt}: api.ErrRange, {leastInt, leastInt}: api.ErrRange,
		{mostInt, 0}: api.ErrRange, {1 << 32, 1 << 32}: api.ErrRange,
		{4000, 4000}: api.ErrLarge, {1025, 1024}: api.ErrLarge, {1024, 1025}: api.ErrLarge,
		{4000, 263}: api.ErrLarge, {263, 4000}: api.ErrLarge, {2405, 436}: api.ErrLarge,
	}
}

// goodSizes are sizes at the limits.
func goodSizes() [][2]int {
	return [][2]int{{1, 1}, {4000, 1}, {1, 4000}, {4000, 262}, {262, 4000}, {1024, 1024}, {512, 2048}}
}
