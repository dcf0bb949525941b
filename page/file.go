package page

import (
	"bytes"
	"slices"
	"strconv"

	"flatbed/api"
)

const (
	maxFile   = api.MaxPixels + 30
	maxDigits = 4
	grayMark  = "P5\n"
	grayTop   = "255\n"
	bitsMark  = "P4\n"
)

// Encode writes a grey page as bytes.
func Encode(g api.Gray) ([]byte, api.Errno) {
	if e := CheckGray(g); e != api.OK {
		return nil, e
	}
	return append(header(grayMark, g.W, g.H, grayTop), g.P...), api.OK
}

// Decode reads what Encode writes.
func Decode(b []byte) (api.Gray, api.Errno) {
	if len(b) > maxFile {
		return api.Gray{}, api.ErrLarge
	}
	w, h, p, ok := cutHeader(b, grayMark, grayTop)
	if !ok || len(p) != w*h {
		return api.Gray{}, api.ErrSyntax
	}
	if e := CheckSize(w, h); e != api.OK {
		return api.Gray{}, e
	}
	return api.Gray{W: w, H: h, P: slices.Clone(p)}, api.OK
}

// Pack writes a black-and-white page as bytes, 8 pixels each.
func Pack(b api.Bits) ([]byte, api.Errno) {
	if e := CheckBits(b); e != api.OK {
		return nil, e
	}
	rows := Fill(rowBytes(b.W), b.H, func(x, y int) byte {
		row := b.P[y*b.W : (y+1)*b.W]
		return packed(row[8*x : min(8*x+8, b.W)])
	})
	return append(header(bitsMark, b.W, b.H, ""), rows...), api.OK
}

// Unpack reads what Pack writes. What fills up the rows is looked at ahead of the size, as its error comes first.
func Unpack(b []byte) (api.Bits, api.Errno) {
	if len(b) > maxFile {
		return api.Bits{}, api.ErrLarge
	}
	w, h, rows, ok := cutHeader(b, bitsMark, "")
	if !ok || len(rows) != rowBytes(w)*h || !filledUp(rows, w) {
		return api.Bits{}, api.ErrSyntax
	}
	if e := CheckSize(w, h); e != api.OK {
		return api.Bits{}, e
	}
	p := Fill(w, h, func(x, y int) bool {
		return rows[y*rowBytes(w)+x/8]&(0x80>>(x%8)) != 0
	})
	return api.Bits{W: w, H: h, P: p}, api.OK
}

func rowBytes(w int) int { return (w + 7) / 8 }

// packed makes a byte of at most 8 pixels.
func packed(pixels []bool) byte {
	v := byte(0)
	for i, ink := range pixels {
		if ink {
			v |= 0x80 >> i
		}
	}
	return v
}

// filledUp reports whether the bits behind the last pixel of each row are 0.
func filledUp(rows []byte, w int) bool {
	if w%8 == 0 {
		return true
	}
	behind := byte(0xff) >> (w % 8)
	for i := rowBytes(w) - 1; i < len(rows); i += rowBytes(w) {
		if rows[i]&behind != 0 {
			return false
		}
	}
	return true
}

func header(mark string, w, h int, top string) []byte {
	return []byte(mark + strconv.Itoa(w) + " " + strconv.Itoa(h) + "\n" + top)
}

// cutHeader reads what header writes, for sides from 1 to 9999; rest is what stands behind it.
func cutHeader(b []byte, mark, top string) (w, h int, rest []byte, ok bool) {
	if rest, ok = bytes.CutPrefix(b, []byte(mark)); !ok {
		return 0, 0, nil, false
	}
	if w, rest, ok = cutNumber(rest, ' '); !ok {
		return 0, 0, nil, false
	}
	if h, rest, ok = cutNumber(rest, '\n'); !ok {
		return 0, 0, nil, false
	}
	rest, ok = bytes.CutPrefix(rest, []byte(top))
	return w, h, rest, ok
}

// cutNumber reads a number up to the byte end; a side is not 0.
func cutNumber(b []byte, end byte) (n int, rest []byte, ok bool) {
	i := bytes.IndexByte(b, end)
	if Outside(i, 1, maxDigits) {
		return 0, nil, false
	}
	n, ok = Number(string(b[:i]), maxDigits)
	return n, b[i+1:], ok && n > 0
}
