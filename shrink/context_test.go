package shrink_test

import (
	"strconv"
	"strings"
	"testing"

	"flatbed/api"
	"flatbed/shrink"
)

func TestContext(t *testing.T) {
	b := draw("..#.....", ".###....", "..#...##")
	for _, c := range [][3]int{
		{0, 0, 0}, {1, 0, 0}, {2, 0, 0}, {3, 0, 0b000_00000_01}, {4, 0, 0b000_00000_10}, {5, 0, 0},
		{0, 1, 0b000_00001_00}, {1, 1, 0b000_00010_00}, {2, 1, 0b000_00100_01}, {3, 1, 0b000_01000_11}, {4, 1, 0b000_10000_11}, {5, 1, 0b000_00000_10}, {7, 1, 0},
		{0, 2, 0b000_00011_00}, {1, 2, 0b001_00111_00}, {2, 2, 0b010_01110_00}, {3, 2, 0b100_11100_01}, {4, 2, 0b000_11000_10}, {7, 2, 0b000_00000_01},
	} {
		n, e := shrink.Context(b, c[0], c[1])
		wantInt(t, strconv.Itoa(c[0])+" "+strconv.Itoa(c[1]), n, e, c[2])
	}
	n, e := shrink.Context(draw("#####", "#####", "#####"), 2, 2)
	wantInt(t, "full", n, e, 1023)
}

// TestContextEach has ink in one pixel alone, so that it counts for just the pixels that come behind it.
func TestContextEach(t *testing.T) {
	places := [][2]int{{1, 2}, {0, 2}, {-1, 2}, {2, 1}, {1, 1}, {0, 1}, {-1, 1}, {-2, 1}, {2, 0}, {1, 0}}
	for _, w := range []int{1, 2, 3, 5, 9} {
		for at := range w * 6 {
			b := page(w, 6, func(x, y int) bool { return y*w+x == at })
			for i := range b.P {
				want := 0
				for k, p := range places {
					if i%w-p[0] == at%w && i/w-p[1] == at/w {
						want = 1 << (9 - k)
					}
				}
				n, e := shrink.Context(b, i%w, i/w)
				wantInt(t, strconv.Itoa(i), n, e, want)
			}
		}
	}
}

func TestContextPages(t *testing.T) {
	for _, l := range looks() {
		for _, size := range [][2]int{{1, 1}, {1, 9}, {2, 7}, {3, 3}, {4, 2}, {17, 1}, {23, 19}} {
			b := page(size[0], size[1], l.ink)
			for i := range b.P {
				n, e := shrink.Context(b, i%b.W, i/b.W)
				wantInt(t, l.name, n, e, contextByPromise(b, i%b.W, i/b.W))
			}
		}
		for _, size := range [][2]int{{4000, 262}, {262, 4000}, {1024, 1024}} {
			b := page(size[0], size[1], l.ink)
			for _, x := range []int{0, 1, 2, b.W - 2, b.W - 1} {
				for _, y := range []int{0, 1, 2, b.H - 2, b.H - 1} {
					n, e := shrink.Context(b, x, y)
					wantInt(t, l.name, n, e, contextByPromise(b, x, y))
				}
			}
		}
	}
}

func TestContextPlace(t *testing.T) {
	for _, size := range [][2]int{{1, 1}, {2, 3}, {4000, 1}, {1, 4000}} {
		b := page(size[0], size[1], looks()[1].ink)
		for _, x := range append(wrongNumbers(0, b.W-1), 0, b.W-1) {
			for _, y := range append(wrongNumbers(0, b.H-1), 0, b.H-1) {
				if x < 0 || x >= b.W || y < 0 || y >= b.H {
					n, e := shrink.Context(b, x, y)
					failInt(t, "Context", n, e, api.ErrPlace)
				}
			}
		}
	}
}

// wantAdaptive wants a page as ShrinkContext, and back.
func wantAdaptive(t *testing.T, what string, b api.Bits) {
	t.Helper()
	data, e := shrink.Encode(b, api.ShrinkContext)
	wantText(t, what, data, e, encodeByPromise(b, 4))
	back, e := shrink.Decode(data)
	wantBits(t, what, back, e, b)
}

// TestAdaptiveCarry has pages that lead just to or beyond numbers with many bytes of 0 or 255, so that what is added at
// last is carried past many bytes.
func TestAdaptiveCarry(t *testing.T) {
	for _, start := range []string{"", "\x80", "\x40", "\x7f", "\xfe", "\x01\x02", "\x12\x34\x56", "\xc0\x00\x00\x00\x01", "\x33\x99\x01\x02\x03\x04\x05\x06\x07"} {
		for _, long := range []int{0, 1, 3, 4, 5, 9, 40} {
			for _, end := range []string{"", "\x01", "\x80", "\x7f\xff\xff"} {
				for _, fill := range []string{"\x00", "\xff"} {
					data := start + strings.Repeat(fill, long) + end
					if strings.HasPrefix(data, "\xff\xff\xff\xff") {
						data = "\xff\xff\xff\xfe" + data[4:]
					}
					wantAdaptive(t, strconv.Quote(data), pageAt(data, 24, 20))
				}
			}
		}
	}
}

func TestAdaptive(t *testing.T) {
	for _, l := range looks() {
		for _, size := range [][2]int{{1, 1}, {1, 40}, {40, 1}, {2, 33}, {3, 21}, {64, 16}, {130, 70}} {
			wantAdaptive(t, l.name, page(size[0], size[1], l.ink))
		}
	}
	for w := 1; w < 40; w += 5 {
		for seed := range 40 {
			wantAdaptive(t, "mixed", page(w, 25, func(x, y int) bool { return number(seed, y*w+x) < 6*seed+1 }))
		}
	}
}

// TestAdaptiveLarge has pages whose chances come to where they stay, with and without ink.
func TestAdaptiveLarge(t *testing.T) {
	for _, l := range looks()[:2] {
		wantAdaptive(t, l.name, page(1024, 1024, l.ink))
		wantAdaptive(t, l.name, page(4000, 262, l.ink))
		wantAdaptive(t, l.name, page(262, 4000, l.ink))
	}
}
