package shrink_test

import (
	"fmt"
	"slices"
	"strings"
	"testing"

	"flatbed/api"
	"flatbed/shrink"
)

const (
	mostInt  = 1<<63 - 1
	leastInt = -1 << 63
	maxText  = 1 << 20
)

// number is one from 0 to 255 that hangs on its arguments only, and looks alike nowhere.
func number(seed, i int) int {
	x := uint32(i)*2654435761 + uint32(seed)*40503
	return int((x ^ x>>15) * 2246822519 >> 24)
}

// row makes a row of a picture: # is ink.
func row(picture string) []bool {
	var r []bool
	for _, c := range picture {
		r = append(r, c == '#')
	}
	return r
}

// numberRow is a row of w pixels, which are the bits of a number.
func numberRow(n, w int) []bool {
	r := make([]bool, w)
	for i := range r {
		r[i] = n>>i&1 == 1
	}
	return r
}

// mixedRow has ink in about so many of 256 pixels.
func mixedRow(seed, w, part int) []bool {
	r := make([]bool, w)
	for i := range r {
		r[i] = number(seed, i) < part
	}
	return r
}

func draw(rows ...string) api.Bits {
	return api.Bits{W: len(rows[0]), H: len(rows), P: row(strings.Join(rows, ""))}
}

// page makes a page of any size by what is told of its pixels.
func page(w, h int, ink func(x, y int) bool) api.Bits {
	b := api.Bits{W: w, H: h, P: make([]bool, w*h)}
	for i := range b.P {
		b.P[i] = ink(i%w, i/w)
	}
	return b
}

// A look says what a page looks like.
type look struct {
	name string
	ink  func(x, y int) bool
}

// looks are of pages that are shrunk well and badly.
func looks() []look {
	mixed := func(part int) func(x, y int) bool {
		return func(x, y int) bool { return number(y+part, x) < part }
	}
	return []look{
		{"blank", func(x, y int) bool { return false }},
		{"full", func(x, y int) bool { return true }},
		{"chess", func(x, y int) bool { return (x+y)%2 == 0 }},
		{"rows", func(x, y int) bool { return y%2 == 0 }},
		{"columns", func(x, y int) bool { return x%2 == 1 }},
		{"thick columns", func(x, y int) bool { return x/3%2 == 0 }},
		{"leaning", func(x, y int) bool { return (2*x+y)%11 < 5 }},
		{"dots", func(x, y int) bool { return x%9 == 4 && y%5 == 2 }},
		{"few", mixed(10)},
		{"some", mixed(60)},
		{"half", mixed(128)},
		{"most", mixed(245)},
	}
}

func sameBits(a, b api.Bits) bool { return a.W == b.W && a.H == b.H && slices.Equal(a.P, b.P) }

func picture(r []bool) string {
	text := ""
	for _, ink := range r[:min(len(r), 200)] {
		text += map[bool]string{false: ".", true: "#"}[ink]
	}
	return text
}

// wrongNumbers are outside of every range that does not reach to least and most, also if they are cut to 32 bits.
func wrongNumbers(least, most int) []int {
	return []int{least - 1, most + 1, -1 << 31, 1 << 31, 1 << 32, 1<<32 + most, -1 << 32, leastInt, leastInt + 1, mostInt, mostInt / 2}
}

func encoded(t *testing.T, b api.Bits, kind int) string {
	t.Helper()
	data, e := shrink.Encode(b, kind)
	if e != api.OK {
		t.Fatal("Encode", b.W, b.H, kind, e)
	}
	return data
}

func archived(t *testing.T, l []api.Named, kind int) string {
	t.Helper()
	a, e := shrink.Pack(l, kind)
	if e != api.OK {
		t.Fatal("Pack", len(l), kind, e)
	}
	return a
}

func named(name string, rows ...string) api.Named { return api.Named{Name: name, Bits: draw(rows...)} }

// three are pages of which each has another size.
func three() []api.Named {
	return []api.Named{named("a", "#.", ".#"), named("p2-", "###"), named("word", ".", "#", ".")}
}

// The following ones want a result, or an error and the zero value of what else is returned.

func wantList[T comparable](t *testing.T, what string, got []T, e api.Errno, want []T) {
	t.Helper()
	if e != api.OK || !slices.Equal(got, want) {
		t.Errorf("%.100q: error %d, got %.300s\nwant %.300s", what, e, fmt.Sprint(got), fmt.Sprint(want))
	}
}

func wantText(t *testing.T, what, got string, e api.Errno, want string) {
	t.Helper()
	if e != api.OK || got != want {
		t.Errorf("%.100q: error %d, got %.300q\nwant %.300q", what, e, got, want)
	}
}

func wantInt(t *testing.T, what string, got int, e api.Errno, want int) {
	t.Helper()
	if e != api.OK || got != want {
		t.Errorf("%.100q: error %d, got %d; want %d", what, e, got, want)
	}
}

func wantBits(t *testing.T, what string, got api.Bits, e api.Errno, want api.Bits) {
	t.Helper()
	if e != api.OK || !sameBits(got, want) {
		t.Errorf("%.100q: error %d, got %d by %d %s\nwant %d by %d %s", what, e, got.W, got.H, picture(got.P), want.W, want.H, picture(want.P))
	}
}

func failList[T any](t *testing.T, what string, got []T, e, want api.Errno) {
	t.Helper()
	if e != want || len(got) != 0 {
		t.Errorf("%.100q: got %d of a list, error %d; want error %d alone", what, len(got), e, want)
	}
}

func failText(t *testing.T, what, got string, e, want api.Errno) {
	t.Helper()
	if e != want || got != "" {
		t.Errorf("%.100q: got %.100q, error %d; want error %d alone", what, got, e, want)
	}
}

func failInt(t *testing.T, what string, got int, e, want api.Errno) {
	t.Helper()
	if e != want || got != 0 {
		t.Errorf("%.100q: got %d, error %d; want error %d alone", what, got, e, want)
	}
}

func failBits(t *testing.T, what string, got api.Bits, e, want api.Errno) {
	t.Helper()
	if e != want || !sameBits(got, api.Bits{}) {
		t.Errorf("%.100q: got %d by %d, error %d; want error %d alone", what, got.W, got.H, e, want)
	}
}
