package skew_test

import (
	"slices"
	"strings"
	"testing"

	"flatbed/api"
)

const (
	mostInt  = 1<<63 - 1
	leastInt = -1 << 63
)

func draw(rows ...string) api.Bits {
	b := api.Bits{W: len(rows[0]), H: len(rows)}
	for _, c := range strings.Join(rows, "") {
		b.P = append(b.P, c == '#')
	}
	return b
}

// shade makes a page in grey: each letter is a value, 10 for b, 20 for c and so on.
func shade(rows ...string) api.Gray {
	g := api.Gray{W: len(rows[0]), H: len(rows)}
	for _, c := range []byte(strings.Join(rows, "")) {
		g.P = append(g.P, (c-'a')*10)
	}
	return g
}

func plain(w, h int, ink bool) api.Bits {
	return api.Bits{W: w, H: h, P: slices.Repeat([]bool{ink}, w*h)}
}

func plainGray(w, h int, v byte) api.Gray {
	return api.Gray{W: w, H: h, P: slices.Repeat([]byte{v}, w*h)}
}

// mixed makes a page that looks alike nowhere, of which each pixel hangs on its place only.
func mixed(w, h int) api.Gray {
	g := plainGray(w, h, 0)
	for i := range g.P {
		x := uint32(i)*2654435761 + uint32(w)
		g.P[i] = byte((x ^ x>>15) * 2246822519 >> 24)
	}
	return g
}

// mixedBits has ink in about dark of 256 pixels.
func mixedBits(w, h int, dark byte) api.Bits {
	b := plain(w, h, false)
	for i, v := range mixed(w, h).P {
		b.P[i] = v < dark
	}
	return b
}

// ruled has full rows where full says so.
func ruled(w, h int, full func(y int) bool) api.Bits {
	b := plain(w, h, false)
	for i := range b.P {
		b.P[i] = full(i / w)
	}
	return b
}

// eachMixed gives pages of many sizes, with even and odd sides, and of little, half and much ink.
func eachMixed(try func(b api.Bits)) {
	for _, size := range [][2]int{{1, 1}, {1, 2}, {2, 1}, {1, 9}, {9, 1}, {4, 5}, {13, 10}, {10, 13}, {37, 24}, {66, 7}} {
		for _, dark := range []byte{20, 128, 235} {
			try(mixedBits(size[0], size[1], dark))
		}
	}
}

// someLeans are at, beside and between the limits, and where columns begin to move.
func someLeans() []int {
	return []int{0, 1, -1, 2, -2, 7, 15, -16, 33, -64, 64, 100, -127, 128, -128, 170, 171, -171, 255, -255, 256, -256}
}

// goodSizes are the least size, and sizes at the limits.
func goodSizes() [][2]int {
	return [][2]int{{1, 1}, {4000, 1}, {1, 4000}, {4000, 262}, {262, 4000}, {1024, 1024}}
}

// wrongNumbers are outside of every range that does not reach to least and most, also if they are cut to 32 bits.
func wrongNumbers(least, most int) []int {
	return []int{least - 1, most + 1, -100000, 1 << 31, 1 << 32, 1<<32 + most, -1 << 32, leastInt, leastInt + 1, mostInt, mostInt / 2}
}

func sameBits(a, b api.Bits) bool { return a.W == b.W && a.H == b.H && slices.Equal(a.P, b.P) }

func wantBits(t *testing.T, what string, got api.Bits, e api.Errno, want api.Bits) {
	t.Helper()
	if e != api.OK || !sameBits(got, want) {
		t.Errorf("%s: error %d, got%s\nwant%s", what, e, picture(got), picture(want))
	}
}

// wantLarge is wantBits without the pages, as they are too large to be printed.
func wantLarge(t *testing.T, what string, got api.Bits, e api.Errno, want api.Bits) {
	t.Helper()
	if e != api.OK || !sameBits(got, want) {
		t.Errorf("%s: got another page, %d by %d, error %d; want %d by %d", what, got.W, got.H, e, want.W, want.H)
	}
}

func wantInt(t *testing.T, what string, got int, e api.Errno, want int) {
	t.Helper()
	if e != api.OK || got != want {
		t.Errorf("%s: got %d, error %d; want %d", what, got, e, want)
	}
}

func wantInts(t *testing.T, what string, got []int, e api.Errno, want []int) {
	t.Helper()
	if e != api.OK || !slices.Equal(got, want) {
		t.Errorf("%s: got %v, error %d; want %v", what, got, e, want)
	}
}

func picture(b api.Bits) string {
	text := ""
	for i, ink := range b.P {
		if i%b.W == 0 {
			text += "\n"
		}
		text += map[bool]string{false: ".", true: "#"}[ink]
	}
	return text
}

// The following ones want an error, and the zero value of what else is returned.

func failBits(t *testing.T, what string, got api.Bits, e, want api.Errno) {
	t.Helper()
	if e != want || !sameBits(got, api.Bits{}) {
		t.Errorf("%s: got %d by %d, error %d; want error %d alone", what, got.W, got.H, e, want)
	}
}

func failInt(t *testing.T, what string, got int, e, want api.Errno) {
	t.Helper()
	if e != want || got != 0 {
		t.Errorf("%s: got %d, error %d; want error %d alone", what, got, e, want)
	}
}

func failInts(t *testing.T, what string, got []int, e, want api.Errno) {
	t.Helper()
	if e != want || len(got) != 0 {
		t.Errorf("%s: got %v, error %d; want error %d alone", what, got, e, want)
	}
}
