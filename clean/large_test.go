package clean_test

import (
	"testing"

	"flatbed/api"
	"flatbed/clean"
)

// The pages here are of the least and of the greatest sizes, with ink that gives the functions as much to do as there is.

func TestLargeGrayPages(t *testing.T) {
	for _, size := range goodSizes() {
		w, h := size[0], size[1]
		g := plainGray(w, h, 255)
		n, e := clean.Level(g)
		wantInt(t, "Level", n, e, 255)
		blank := plain(w, h, false)
		b, e := clean.Auto(g)
		sameOfLarge(t, "Auto", size, b, e, blank)
		b, e = clean.Local(g, 100, 0)
		sameOfLarge(t, "Local", size, b, e, blank)
		for name, call := range map[string]func() (api.Gray, api.Errno){
			"Stretch": func() (api.Gray, api.Errno) { return clean.Stretch(g, 0, 255) },
			"Middle":  func() (api.Gray, api.Errno) { return clean.Middle(g, 5) },
			"Even":    func() (api.Gray, api.Errno) { return clean.Even(g, 1) },
			"Even 2":  func() (api.Gray, api.Errno) { return clean.Even(g, 4000) },
		} {
			if x, e := call(); e != api.OK || !sameGray(x, g) {
				t.Error(name, size, x.W, x.H, e)
			}
		}
	}
}

func TestLargeBitsPages(t *testing.T) {
	for _, size := range goodSizes() {
		w, h := size[0], size[1]
		full, blank := plain(w, h, true), plain(w, h, false)
		b, e := clean.Spread(full, 50)
		sameOfLarge(t, "Spread", size, b, e, full)
		b, e = clean.Shrink(full, 50)
		sameOfLarge(t, "Shrink", size, b, e, inner(w, h, 50))
		b, e = clean.Majority(blank)
		sameOfLarge(t, "Majority", size, b, e, blank)
		b, n, e := clean.Specks(full, api.MaxPixels)
		sameOfLarge(t, "Specks", size, b, e, blank)
		wantInt(t, "Specks", n, e, 1)
		b, n, e = clean.Holes(blank, api.MaxPixels)
		sameOfLarge(t, "Holes", size, b, e, blank)
		wantInt(t, "Holes", n, e, 0)
		b, n, e = clean.Border(full, api.MaxPixels)
		sameOfLarge(t, "Border", size, b, e, blank)
		wantInt(t, "Border", n, e, 1)
		n, e = clean.Strokes(full)
		// It has more of the shorter runs: h rows of w, and w columns of h.
		wantInt(t, "Strokes", n, e, min(w, h))
	}
}

// inner has ink where all borders are at least away pixels away.
func inner(w, h, away int) api.Bits {
	b := plain(w, h, false)
	for i := range b.P {
		x, y := i%w, i/w
		b.P[i] = min(x, y, w-1-x, h-1-y) >= away
	}
	return b
}

func TestLargeDots(t *testing.T) {
	dots := plain(1024, 1024, false)
	for i := range dots.P {
		dots.P[i] = i%2 == 1 && i/1024%2 == 1
	}
	b, n, e := clean.Specks(dots, 1)
	sameOfLarge(t, "Specks", [2]int{1024, 1024}, b, e, plain(1024, 1024, false))
	wantInt(t, "Specks", n, e, 512*512)
	// The last row and column are at the border.
	holes := plain(1024, 1024, false)
	for i := range holes.P {
		holes.P[i] = !dots.P[i]
	}
	_, n, e = clean.Holes(holes, 1)
	wantInt(t, "Holes", n, e, 511*511)
	_, n, e = clean.Border(dots, 0)
	wantInt(t, "Border", n, e, 1023)
}

// TestLargeSnake has one piece that goes to and fro through the whole page.
func TestLargeSnake(t *testing.T) {
	snake := plain(1023, 1023, false)
	for i := range snake.P {
		x, y := i%1023, i/1023
		snake.P[i] = y%2 == 0 || y%4 == 1 && x == 1022 || y%4 == 3 && x == 0
	}
	size := [2]int{1023, 1023}
	length := 512*1023 + 511
	b, n, e := clean.Specks(snake, length-1)
	sameOfLarge(t, "Specks", size, b, e, snake)
	wantInt(t, "Specks", n, e, 0)
	b, n, e = clean.Specks(snake, length)
	sameOfLarge(t, "Specks", size, b, e, plain(1023, 1023, false))
	wantInt(t, "Specks", n, e, 1)
}

func TestLargeThin(t *testing.T) {
	for _, size := range goodSizes() {
		full := plain(size[0], size[1], true)
		b, n, e := clean.Thin(full, 0)
		sameOfLarge(t, "Thin", size, b, e, full)
		wantInt(t, "Thin", n, e, 0)
		b, n, e = clean.Thin(full, 1000)
		thinnest := min(size[0], size[1]) / 2
		if e != api.OK || n < thinnest-1 || n > thinnest+1 {
			t.Error("Thin", size, n, e)
		}
		again, n, e := clean.Thin(b, 1000)
		sameOfLarge(t, "Thin of Thin", size, again, e, b)
		wantInt(t, "Thin of Thin", n, e, 0)
	}
}

// sameOfLarge is wantBits without the pages, as they are too large to be printed.
func sameOfLarge(t *testing.T, what string, size [2]int, got api.Bits, e api.Errno, want api.Bits) {
	t.Helper()
	if e != api.OK || !sameBits(got, want) {
		t.Errorf("%s of %v: got another page, %d by %d, error %d", what, size, got.W, got.H, e)
	}
}
