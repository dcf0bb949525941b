package clean_test

import (
	"slices"
	"strings"
	"testing"

	"flatbed/api"
)

const (
	mostInt  = 1<<63 - 1
	leastInt = -1 << 63
)

func draw(rows ...string) api.Bits {
	b := api.Bits{W: len(rows[0]), H: len(rows)}
	for _, c := range strings.Join(rows, "") {
		b.P = append(b.P, c == '#')
	}
	return b
}

func gray(w, h int, p ...byte) api.Gray { return api.Gray{W: w, H: h, P: p} }

func plain(w, h int, ink bool) api.Bits {
	return api.Bits{W: w, H: h, P: slices.Repeat([]bool{ink}, w*h)}
}

func plainGray(w, h int, v byte) api.Gray {
	return api.Gray{W: w, H: h, P: slices.Repeat([]byte{v}, w*h)}
}

// mixed makes a page that looks alike nowhere, of which each pixel hangs on its place only.
func mixed(w, h int) api.Gray {
	g := plainGray(w, h, 0)
	for i := range g.P {
		x := uint32(i)*2654435761 + uint32(w)
		g.P[i] = byte((x ^ x>>15) * 2246822519 >> 24)
	}
	return g
}

// mixedBits has ink in about dark of 256 pixels.
func mixedBits(w, h int, dark byte) api.Bits {
	b := plain(w, h, false)
	for i, v := range mixed(w, h).P {
		b.P[i] = v < dark
	}
	return b
}

// eachMixed gives pages of many sizes and of little, half and much ink.
func eachMixed(try func(b api.Bits)) {
	for _, size := range [][2]int{{1, 1}, {1, 9}, {9, 1}, {2, 2}, {3, 7}, {13, 11}, {24, 31}} {
		for _, dark := range []byte{20, 60, 100, 128, 160, 200, 245} {
			try(mixedBits(size[0], size[1], dark))
		}
	}
}

// goodSizes are the least size, and sizes at the limits.
func goodSizes() [][2]int {
	return [][2]int{{1, 1}, {4000, 1}, {1, 4000}, {4000, 262}, {262, 4000}, {1024, 1024}}
}

// wrongNumbers are outside of every range that does not reach to least and most, also if they are cut to 32 bits.
func wrongNumbers(least, most int) []int {
	return []int{least - 1, most + 1, -1000, 1 << 31, 1 << 32, 1<<32 + least, leastInt, leastInt + 1, mostInt, mostInt / 2}
}

func sameBits(a, b api.Bits) bool { return a.W == b.W && a.H == b.H && slices.Equal(a.P, b.P) }

func sameGray(a, b api.Gray) bool { return a.W == b.W && a.H == b.H && slices.Equal(a.P, b.P) }

func wantBits(t *testing.T, what string, got api.Bits, e api.Errno, want api.Bits) {
	t.Helper()
	if e != api.OK || !sameBits(got, want) {
		t.Errorf("%s: error %d, got%s\nwant%s", what, e, picture(got), picture(want))
	}
}

// wantCounted is wantBits with the number that is returned, too.
func wantCounted(t *testing.T, what string, got api.Bits, n int, e api.Errno, want api.Bits, count int) {
	t.Helper()
	wantBits(t, what, got, e, want)
	if n != count {
		t.Errorf("%s: got number %d, want %d", what, n, count)
	}
}

func wantGray(t *testing.T, what string, got api.Gray, e api.Errno, want api.Gray) {
	t.Helper()
	if e != api.OK || !sameGray(got, want) {
		t.Errorf("%s: got %v, error %d; want %v", what, got, e, want)
	}
}

func wantInt(t *testing.T, what string, got int, e api.Errno, want int) {
	t.Helper()
	if e != api.OK || got != want {
		t.Errorf("%s: got %d, error %d; want %d", what, got, e, want)
	}
}

func picture(b api.Bits) string {
	text := ""
	for i, ink := range b.P {
		if i%b.W == 0 {
			text += "\n"
		}
		text += map[bool]string{false: ".", true: "#"}[ink]
	}
	return text
}

// The following ones want an error, and the zero value of what else is returned.

func failBits(t *testing.T, what string, got api.Bits, e, want api.Errno) {
	t.Helper()
	if e != want || !sameBits(got, api.Bits{}) {
		t.Errorf("%s: got %d by %d, error %d; want error %d alone", what, got.W, got.H, e, want)
	}
}

func failCounted(t *testing.T, what string, got api.Bits, n int, e, want api.Errno) {
	t.Helper()
	failBits(t, what, got, e, want)
	failInt(t, what, n, e, want)
}

func failGray(t *testing.T, what string, got api.Gray, e, want api.Errno) {
	t.Helper()
	if e != want || !sameGray(got, api.Gray{}) {
		t.Errorf("%s: got %d by %d, error %d; want error %d alone", what, got.W, got.H, e, want)
	}
}

func failInt(t *testing.T, what string, got int, e, want api.Errno) {
	t.Helper()
	if e != want || got != 0 {
		t.Errorf("%s: got %d, error %d; want error %d alone", what, got, e, want)
	}
}

// eachAround calls visit for the square around a pixel, as far as it is in the page.
func eachAround(w, h, x, y, radius int, visit func(at int)) {
	for v := max(0, y-radius); v <= min(h-1, y+radius); v++ {
		for u := max(0, x-radius); u <= min(w-1, x+radius); u++ {
			visit(v*w + u)
		}
	}
}
