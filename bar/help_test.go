package bar_test

import (
	"slices"
	"strings"
	"testing"

	"flatbed/api"
	"flatbed/bar"
	"flatbed/page"
)

const (
	mostInt  = 1<<63 - 1
	leastInt = -1 << 63
	letters  = "0123456789ABCDEFGHIJKLMNOPQRSTUVWXYZ-. $/+%"
)

// number is one from 0 to 255 that hangs on its arguments only, and looks alike nowhere.
func number(seed, i int) int {
	x := uint32(i)*2654435761 + uint32(seed)*40503
	return int((x ^ x>>15) * 2246822519 >> 24)
}

func draw(rows ...string) api.Bits {
	b := api.Bits{W: len(rows[0]), H: len(rows)}
	for _, c := range strings.Join(rows, "") {
		b.P = append(b.P, c == '#')
	}
	return b
}

func plain(w, h int, ink bool) api.Bits {
	return api.Bits{W: w, H: h, P: slices.Repeat([]bool{ink}, w*h)}
}

// rowOf is a page of one row, with runs in turn without ink and with ink.
func rowOf(runs ...int) api.Bits {
	b := api.Bits{H: 1}
	for i, n := range runs {
		b.P = append(b.P, slices.Repeat([]bool{i%2 == 1}, n)...)
	}
	b.W = len(b.P)
	return b
}

// beside is a page of pages beside each other, as high as the highest.
func beside(t *testing.T, pages ...api.Bits) api.Bits {
	t.Helper()
	w, h := 0, 0
	for _, p := range pages {
		w, h = w+p.W, max(h, p.H)
	}
	b := plain(w, h, false)
	x := 0
	for _, p := range pages {
		var e api.Errno
		if b, e = page.Paste(b, p, x, 0); e != api.OK {
			t.Fatal("Paste", e)
		}
		x += p.W
	}
	return b
}

// turned is a page turned by two quarters.
func turned(b api.Bits) api.Bits {
	c := api.Bits{W: b.W, H: b.H, P: slices.Clone(b.P)}
	slices.Reverse(c.P)
	return c
}

func backwards(text string) string {
	b := []byte(text)
	slices.Reverse(b)
	return string(b)
}

// runsOf are the runs of modules, each unit long; the first one is of bars.
func runsOf(modules string, unit int) []int {
	var runs []int
	for i := range len(modules) {
		if i == 0 || modules[i] != modules[i-1] {
			runs = append(runs, 0)
		}
		runs[len(runs)-1] += unit
	}
	return runs
}

// digits13 are 13 digits with the right check digit.
func digits13(t *testing.T, seed int) string {
	t.Helper()
	text := ""
	for i := range 12 {
		text += string(byte('0' + number(seed, i)%10))
	}
	n, e := bar.CheckDigit(text)
	if e != api.OK {
		t.Fatal("CheckDigit", text, e)
	}
	return text + string(byte('0'+n))
}

// letterText has n of the 43 letters.
func letterText(seed, n int) string {
	b := make([]byte, n)
	for i := range b {
		b[i] = letters[number(seed, i)%43]
	}
	return string(b)
}

func modulesEAN(t *testing.T, digits string) string {
	t.Helper()
	m, e := bar.EAN(digits)
	if e != api.OK {
		t.Fatal("EAN", digits, e)
	}
	return m
}

func modules39(t *testing.T, text string) string {
	t.Helper()
	m, e := bar.Code39(text)
	if e != api.OK {
		t.Fatal("Code39", text, e)
	}
	return m
}

func drawn(t *testing.T, modules string, unit, height, quiet int) api.Bits {
	t.Helper()
	b, e := bar.Draw(modules, unit, height, quiet)
	if e != api.OK {
		t.Fatal("Draw", unit, height, quiet, e)
	}
	return b
}

// wrongNumbers are outside of every range that does not reach to least and most, also if they are cut to 32 bits.
func wrongNumbers(least, most int) []int {
	return []int{least - 1, most + 1, -1 << 31, 1 << 31, 1 << 32, 1<<32 + most, -1 << 32, leastInt, leastInt + 1, mostInt, mostInt / 2}
}

func sameBits(a, b api.Bits) bool { return a.W == b.W && a.H == b.H && slices.Equal(a.P, b.P) }

func picture(b api.Bits) string {
	text := ""
	for i, ink := range b.P {
		if i%b.W == 0 {
			text += "\n"
		}
		text += map[bool]string{false: ".", true: "#"}[ink]
	}
	return text
}

func wantText(t *testing.T, what, got string, e api.Errno, want string) {
	t.Helper()
	if e != api.OK || got != want {
		t.Errorf("%s: got %q, error %d; want %q", what, got, e, want)
	}
}

func wantBits(t *testing.T, what string, got api.Bits, e api.Errno, want api.Bits) {
	t.Helper()
	if e != api.OK || !sameBits(got, want) {
		t.Errorf("%s: error %d, got%s\nwant%s", what, e, picture(got), picture(want))
	}
}

func wantList[T comparable](t *testing.T, what string, got []T, e api.Errno, want []T) {
	t.Helper()
	if e != api.OK || !slices.Equal(got, want) {
		t.Errorf("%s: error %d, got %v\nwant %v", what, e, got, want)
	}
}

// The following ones want an error, and the zero value of what else is returned.

func failText(t *testing.T, what, got string, e, want api.Errno) {
	t.Helper()
	if e != want || got != "" {
		t.Errorf("%s: got %q, error %d; want error %d alone", what, got, e, want)
	}
}

func failBits(t *testing.T, what string, got api.Bits, e, want api.Errno) {
	t.Helper()
	if e != want || !sameBits(got, api.Bits{}) {
		t.Errorf("%s: got %d by %d, error %d; want error %d alone", what, got.W, got.H, e, want)
	}
}

func failList[T any](t *testing.T, what string, got []T, e, want api.Errno) {
	t.Helper()
	if e != want || len(got) != 0 {
		t.Errorf("%s: got %d of a list, error %d; want error %d alone", what, len(got), e, want)
	}
}
