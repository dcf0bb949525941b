package shrink_test

import (
	"slices"
	"strconv"
	"strings"
	"testing"

	"flatbed/api"
	"flatbed/shrink"
)

// stripsByPromise are the rows of a page, so many each time, encoded alone.
func stripsByPromise(b api.Bits, rows, kind int) []string {
	var l []string
	for p := b.P; len(p) > 0; {
		n := min(rows, len(p)/b.W)
		l = append(l, encodeByPromise(api.Bits{W: b.W, H: n, P: p[:n*b.W]}, kind))
		p = p[n*b.W:]
	}
	return l
}

func TestStrips(t *testing.T) {
	for _, look := range looks() {
		for _, size := range [][2]int{{1, 1}, {5, 1}, {1, 12}, {7, 10}, {33, 24}} {
			b := page(size[0], size[1], look.ink)
			for kind := 1; kind <= 4; kind++ {
				for _, rows := range []int{1, 2, 3, 5, 10, 11, 12, 13, 24, 25, 4000} {
					want := stripsByPromise(b, rows, kind)
					l, e := shrink.Strips(b, rows, kind)
					wantList(t, look.name, l, e, want)
					back, e := shrink.FromStrips(want)
					wantBits(t, look.name, back, e, b)
				}
			}
		}
	}
}

func TestStripsLarge(t *testing.T) {
	for i, size := range [][2]int{{262, 4000}, {4000, 262}, {1024, 1024}, {1, 4000}} {
		b := page(size[0], size[1], looks()[6+i].ink)
		for _, rows := range []int{1, 7, 262, 3999, 4000} {
			l, e := shrink.Strips(b, rows, 1+(rows+i)%4)
			if e != api.OK || len(l) != (size[1]+rows-1)/rows {
				t.Error(size, rows, len(l), e)
			}
			back, e := shrink.FromStrips(l)
			wantBits(t, "large", back, e, b)
		}
	}
}

func TestStripsRange(t *testing.T) {
	for _, kind := range []int{0, 1, 4, 5, -1, mostInt} {
		for _, rows := range wrongNumbers(1, 4000) {
			l, e := shrink.Strips(draw("#.", ".#"), rows, kind)
			failList(t, strconv.Itoa(rows), l, e, api.ErrRange)
		}
		if kind < 1 || kind > 4 {
			l, e := shrink.Strips(draw("#.", ".#"), 1, kind)
			failList(t, strconv.Itoa(kind), l, e, api.ErrKind)
		}
	}
}

// TestFromStripsKinds has strips of several heights and kinds.
func TestFromStripsKinds(t *testing.T) {
	b, e := shrink.FromStrips([]string{encodeByPromise(draw("#..", ".#."), 3), encodeByPromise(draw("..#"), 4), encodeByPromise(draw("###", "...", "###"), 1), encodeByPromise(draw(".##"), 2)})
	wantBits(t, "kinds", b, e, draw("#..", ".#.", "..#", "###", "...", "###", ".##"))
}

func TestFromStripsBad(t *testing.T) {
	three, four := encodeByPromise(draw("#.#"), 1), encodeByPromise(draw("#.##"), 2)
	wide := encodeByPromise(page(4000, 262, looks()[0].ink), 3)
	high := encodeByPromise(page(1, 4000, looks()[0].ink), 3)
	low := encodeByPromise(draw("#"), 1)
	row := encodeByPromise(page(4000, 1, looks()[1].ink), 2)
	large := strings.Repeat("x", 2*maxText+1)
	kind, size, sum := framed(0, 4, 1, "\x00"), framed(1, 0, 1, ""), three[:len(three)-1]+"\x00"
	for _, c := range []struct {
		l    []string
		want api.Errno
	}{
		{nil, api.ErrEmpty}, {[]string{}, api.ErrEmpty},
		{[]string{""}, api.ErrSyntax}, {[]string{large}, api.ErrLarge}, {[]string{sum}, api.ErrSum}, {[]string{kind}, api.ErrKind}, {[]string{size}, api.ErrRange},
		{[]string{framed(1, 4000, 263, "")}, api.ErrLarge}, {[]string{framed(1, 1, 1, "")}, api.ErrSyntax},
		{[]string{three, four}, api.ErrConflict}, {[]string{three, three, four, three}, api.ErrConflict},
		// The first bad strip decides.
		{[]string{three, four, ""}, api.ErrConflict}, {[]string{three, "", four}, api.ErrSyntax}, {[]string{three, kind, four, sum}, api.ErrKind}, {[]string{three, three, sum, four, large}, api.ErrSum},
		{[]string{three, large, kind}, api.ErrLarge}, {[]string{size, four, three}, api.ErrRange},
		// The size comes behind all strips.
		{[]string{high, low}, api.ErrRange}, {[]string{low, high}, api.ErrRange}, {[]string{wide, row}, api.ErrLarge}, {[]string{row, wide}, api.ErrLarge},
		{[]string{wide, row, ""}, api.ErrSyntax}, {[]string{wide, wide, wide, three}, api.ErrConflict}, {[]string{high, low, sum}, api.ErrSum}, {[]string{high, high, kind, three}, api.ErrKind},
		{slices.Repeat([]string{wide}, 15), api.ErrLarge}, {slices.Repeat([]string{wide}, 16), api.ErrRange}, {slices.Repeat([]string{row}, 4001), api.ErrRange}, {slices.Repeat([]string{row}, 4000), api.ErrLarge},
		{slices.Repeat([]string{row}, 263), api.ErrLarge}, {append(slices.Repeat([]string{low}, 4001), three), api.ErrConflict},
	} {
		b, e := shrink.FromStrips(c.l)
		failBits(t, "FromStrips", b, e, c.want)
	}
	b, e := shrink.FromStrips(slices.Repeat([]string{low}, 4000))
	wantBits(t, "high", b, e, page(1, 4000, looks()[1].ink))
	b, e = shrink.FromStrips(slices.Repeat([]string{row}, 262))
	wantBits(t, "large", b, e, page(4000, 262, looks()[1].ink))
}
