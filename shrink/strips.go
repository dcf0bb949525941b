package shrink

import (
	"flatbed/api"
	"flatbed/page"
)

// Strips divides a page into strips of rows, and encodes each one.
func Strips(b api.Bits, rows, kind int) ([]string, api.Errno) {
	if e := page.CheckBits(b); e != api.OK {
		return nil, e
	}
	if page.Outside(rows, 1, api.MaxSide) {
		return nil, api.ErrRange
	}
	var l []string
	for y := 0; y < b.H; y += rows {
		strip, e := page.Cut(b, api.Box{Y: y, W: b.W, H: min(rows, b.H-y)})
		if e != api.OK {
			return nil, e
		}
		data, e := Encode(strip, kind)
		if e != api.OK {
			return nil, e
		}
		l = append(l, data)
	}
	return l, api.OK
}

// FromStrips puts a page together. As the errors of strips come first, all of them are decoded also if they are too many
// for a page; but the pixels of these are not gathered.
func FromStrips(l []string) (api.Bits, api.Errno) {
	if len(l) == 0 {
		return api.Bits{}, api.ErrEmpty
	}
	var whole api.Bits
	for i, data := range l {
		strip, e := Decode(data)
		if e != api.OK {
			return api.Bits{}, e
		}
		if i == 0 {
			whole.W = strip.W
		}
		if strip.W != whole.W {
			return api.Bits{}, api.ErrConflict
		}
		whole.H += strip.H
		if page.CheckSize(whole.W, whole.H) == api.OK {
			whole.P = append(whole.P, strip.P...)
		}
	}
	if e := page.CheckSize(whole.W, whole.H); e != api.OK {
		return api.Bits{}, e
	}
	return whole, api.OK
}
