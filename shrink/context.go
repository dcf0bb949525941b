package shrink

import (
	"flatbed/api"
	"flatbed/page"
)

// A context has pixels of two columns at both sides and of two rows above.
const (
	sideColumns = 2
	rowsAbove   = 2
	contexts    = 1 << 10
)

const (
	wholeChance = 1 << 12
	firstChance = wholeChance / 2
	slowness    = 32
	firstRange  = 1<<32 - 1
	leastRange  = 1 << 24
	lowBytes    = 4
)

// Context returns the number of the pixels that come before one.
func Context(b api.Bits, x, y int) (int, api.Errno) {
	if e := page.CheckBits(b); e != api.OK {
		return 0, e
	}
	if page.Outside(x, 0, b.W-1) || page.Outside(y, 0, b.H-1) {
		return 0, api.ErrPlace
	}
	near, e := page.Blank(sideColumns+1+sideColumns, rowsAbove+1)
	if e != api.OK {
		return 0, e
	}
	near, e = page.Paste(near, b, sideColumns-x, rowsAbove-y)
	if e != api.OK {
		return 0, e
	}
	return contextOf(near.P, rowsAbove*near.W+sideColumns, near.W), api.OK
}

// contextOf takes pixels in rows of w, which has all that belong to the context, also those outside of the page.
func contextOf(p []bool, at, w int) int {
	up := at - w
	top := up - w
	n := 0
	for _, i := range [...]int{top - 1, top, top + 1, up - 2, up - 1, up, up + 1, up + 2, at - 2, at - 1} {
		n *= 2
		if p[i] {
			n++
		}
	}
	return n
}

// eachPixel goes through the pixels of a page, row by row: pixel is given the chance of each one to have no ink, by
// what pixels with the same context were so far, and tells whether it has ink. What is known of the page has edges
// without ink, so that no context lies outside of it.
func eachPixel(w, h int, pixel func(at, chance int) bool) {
	var chances [contexts]int
	for i := range chances {
		chances[i] = firstChance
	}
	wide := sideColumns + w + sideColumns
	known := make([]bool, wide*(rowsAbove+h))
	for y := range h {
		for x := range w {
			at := (rowsAbove+y)*wide + sideColumns + x
			chance := &chances[contextOf(known, at, wide)]
			known[at] = pixel(y*w+x, *chance)
			*chance = adapted(*chance, known[at])
		}
	}
}

func adapted(chance int, ink bool) int {
	if ink {
		return chance - chance/slowness
	}
	return chance + (wholeChance-chance)/slowness
}

// parted divides a range into the lower part of pixels without ink, and the one above it of those with ink.
func parted(span uint32, chance int) (without, with uint32) {
	without = span / wholeChance * uint32(chance)
	return without, span - without
}

func writeContext(b api.Bits) string {
	c := rangeWriter{span: firstRange}
	eachPixel(b.W, b.H, func(at, chance int) bool {
		c.put(b.P[at], chance)
		return b.P[at]
	})
	return string(c.bytes) + bytesOf(uint64(c.low), lowBytes)
}

// readContext reads what writeContext writes; of other data it makes any page.
func readContext(data string, w, h int) ([]bool, api.Errno) {
	c := rangeReader{span: firstRange, rest: data}
	for range lowBytes {
		c.shift()
	}
	p := make([]bool, w*h)
	eachPixel(w, h, func(at, chance int) bool {
		p[at] = c.get(chance)
		return p[at]
	})
	return p, api.OK
}

// A rangeWriter has a number without a bound: its last four bytes are low, and bytes those ahead of them.
type rangeWriter struct {
	low, span uint32
	bytes     []byte
}

func (c *rangeWriter) put(ink bool, chance int) {
	without, with := parted(c.span, chance)
	c.span = without
	if ink {
		c.span = with
		c.raise(without)
	}
	for c.span < leastRange {
		c.bytes = append(c.bytes, byte(c.low>>(byteBits*(lowBytes-1))))
		c.low <<= byteBits
		c.span <<= byteBits
	}
}

// raise adds to the number. What low does not hold is carried to the bytes ahead, past all that are 255. There is always
// one that is not, as the number stays less than the range at first, multiplied as often.
func (c *rangeWriter) raise(by uint32) {
	c.low += by
	if c.low >= by {
		return
	}
	for i := len(c.bytes) - 1; i >= 0; i-- {
		c.bytes[i]++
		if c.bytes[i] != 0 {
			return
		}
	}
}

// A rangeReader has by how much the number that is read is greater than the low of the writer.
type rangeReader struct {
	beyond, span uint32
	rest         string
}

func (c *rangeReader) get(chance int) bool {
	without, with := parted(c.span, chance)
	ink := c.beyond >= without
	c.span = without
	if ink {
		c.span = with
		c.beyond -= without
	}
	for c.span < leastRange {
		c.shift()
		c.span <<= byteBits
	}
	return ink
}

// shift takes the next byte; what is missing is 0.
func (c *rangeReader) shift() {
	c.beyond <<= byteBits
	if c.rest != "" {
		c.beyond |= uint32(c.rest[0])
		c.rest = c.rest[1:]
	}
}
