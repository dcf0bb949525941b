package forms

import (
	"slices"

	"flatbed/api"
	"flatbed/glyph"
	"flatbed/page"
	"flatbed/skew"
)

const maxForms = 100

// Anchors looks where a page has the anchors of a form.
func Anchors(f api.Form, b api.Bits) ([]api.Found, api.Errno) {
	if e := checkPage(f, b); e != api.OK {
		return nil, e
	}
	return find(f, b)
}

// checkPage has the errors of the form first, as all functions with both.
func checkPage(f api.Form, b api.Bits) api.Errno {
	if e := Check(f); e != api.OK {
		return e
	}
	return checkSize(f, b)
}

// checkSize leaves the check of the form to its caller.
func checkSize(f api.Form, b api.Bits) api.Errno {
	if e := page.CheckBits(b); e != api.OK {
		return e
	}
	if !isAsLarge(f, b) {
		return api.ErrConflict
	}
	return api.OK
}

func isAsLarge(f api.Form, b api.Bits) bool { return f.W == b.W && f.H == b.H }

// find leaves the checks to its caller.
func find(f api.Form, b api.Bits) ([]api.Found, api.Errno) {
	found := make([]api.Found, 0, len(f.Anchors))
	for _, a := range f.Anchors {
		at, e := nearest(f, a, b)
		if e != api.OK {
			return nil, e
		}
		found = append(found, at)
	}
	return found, api.OK
}

// nearest tries all places within reach. There is at least one at which the anchor lies in the page: its own.
func nearest(f api.Form, a api.Anchor, b api.Bits) (api.Found, api.Errno) {
	around := aroundOf(f, a)
	c, e := page.Cut(b, around)
	if e != api.OK {
		return api.Found{}, e
	}
	shape, ground := glyph.ShapeOf(a.Bits), glyph.ShapeOf(c)
	var tried []api.Found
	for y := range around.H - a.Bits.H + 1 {
		rows := ground.Below(y)
		for x := range around.W - a.Bits.W + 1 {
			tried = append(tried, api.Found{DX: around.X + x - a.X, DY: around.Y + y - a.Y, Distance: shape.Differ(rows, x)})
		}
	}
	return slices.MinFunc(tried, skew.ComparePlacings), api.OK
}

// aroundOf returns the box of a page in which an anchor can be.
func aroundOf(f api.Form, a api.Anchor) api.Box {
	left, top := max(a.X-f.Reach, 0), max(a.Y-f.Reach, 0)
	right, bottom := min(a.X+a.Bits.W+f.Reach, f.W), min(a.Y+a.Bits.H+f.Reach, f.H)
	return api.Box{X: left, Y: top, W: right - left, H: bottom - top}
}

// Offset tells by how much a page is moved against its form.
func Offset(f api.Form, b api.Bits) (api.Point, api.Errno) {
	found, e := Anchors(f, b)
	if e != api.OK {
		return api.Point{}, e
	}
	return middle(found), api.OK
}

// middle takes DX and DY each by itself, so that a few anchors that are found at wrong places do not matter.
func middle(found []api.Found) api.Point {
	if len(found) == 0 {
		return api.Point{}
	}
	var across, down []int
	for _, at := range found {
		across = append(across, at.DX)
		down = append(down, at.DY)
	}
	slices.Sort(across)
	slices.Sort(down)
	half := (len(found) - 1) / 2
	return api.Point{X: across[half], Y: down[half]}
}

// Place moves a page so that it lies as its form.
func Place(f api.Form, b api.Bits) (api.Bits, api.Errno) {
	if e := checkPage(f, b); e != api.OK {
		return api.Bits{}, e
	}
	return placed(f, b)
}

// placed leaves the checks to its caller.
func placed(f api.Form, b api.Bits) (api.Bits, api.Errno) {
	empty, e := page.Blank(f.W, f.H)
	if e != api.OK {
		return api.Bits{}, e
	}
	found, e := find(f, b)
	if e != api.OK {
		return api.Bits{}, e
	}
	offset := middle(found)
	return page.Paste(empty, b, -offset.X, -offset.Y)
}

// Best returns the number of the form that a page fits best, and how badly it fits this one.
func Best(l []api.Form, b api.Bits) (int, int, api.Errno) {
	if len(l) > maxForms {
		return 0, 0, api.ErrLarge
	}
	for _, f := range l {
		if e := Check(f); e != api.OK {
			return 0, 0, e
		}
	}
	if e := page.CheckBits(b); e != api.OK {
		return 0, 0, e
	}
	best, least, fits := 0, 0, false
	for i, f := range l {
		if !isAsLarge(f, b) {
			continue
		}
		found, e := find(f, b)
		if e != api.OK {
			return 0, 0, e
		}
		if n := misfit(f, found); !fits || n < least {
			best, least, fits = i, n, true
		}
	}
	if !fits {
		return 0, 0, api.ErrNone
	}
	return best, least, api.OK
}

// misfit tells how many of 1000 pixels of all anchors differ. A form without anchors fits no page better than any other.
func misfit(f api.Form, found []api.Found) int {
	if len(found) == 0 {
		return whole
	}
	sum, pixels := 0, 0
	for i, at := range found {
		sum += at.Distance
		pixels += len(f.Anchors[i].Bits.P)
	}
	return whole * sum / pixels
}
