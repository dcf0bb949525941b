// Package page has pages: their checks, shapes, counts, and how they are written. It is described in doc/01-page.md.
package page

import "flatbed/api"

// CheckGray returns what is wrong with a page in grey.
func CheckGray(g api.Gray) api.Errno { return check(g.W, g.H, len(g.P)) }

// CheckBits returns what is wrong with a page in black and white.
func CheckBits(b api.Bits) api.Errno { return check(b.W, b.H, len(b.P)) }

func check(w, h, pixels int) api.Errno {
	if e := CheckSize(w, h); e != api.OK {
		return e
	}
	if pixels != w*h {
		return api.ErrForm
	}
	return api.OK
}

// CheckSize returns what is wrong with the size of a page.
func CheckSize(w, h int) api.Errno {
	if Outside(w, 1, api.MaxSide) || Outside(h, 1, api.MaxSide) {
		return api.ErrRange
	}
	if w*h > api.MaxPixels {
		return api.ErrLarge
	}
	return api.OK
}

// CheckPlace wants the box in a page of this size; it subtracts, as X + W and Y + H can be beyond what an int holds.
func CheckPlace(w, h int, box api.Box) api.Errno {
	if box.W < 1 || box.H < 1 || box.X < 0 || box.Y < 0 {
		return api.ErrPlace
	}
	if box.W > w || box.X > w-box.W || box.H > h || box.Y > h-box.H {
		return api.ErrPlace
	}
	return api.OK
}

// IsName reports whether a text is a name.
func IsName(s string) bool {
	if len(s) < 1 || len(s) > api.MaxName || !isSmall(s[0]) {
		return false
	}
	for i := range len(s) {
		if c := s[i]; !isSmall(c) && !isDigit(c) && c != '-' {
			return false
		}
	}
	return true
}

// NameChecker returns a function for the names of a list, of which no two are equal.
func NameChecker() func(name string) api.Errno {
	known := map[string]bool{}
	return func(name string) api.Errno {
		if !IsName(name) {
			return api.ErrName
		}
		if known[name] {
			return api.ErrTwice
		}
		known[name] = true
		return api.OK
	}
}

func isSmall(c byte) bool { return c >= 'a' && c <= 'z' }

func isDigit(c byte) bool { return c >= '0' && c <= '9' }

// Blank returns a page without ink.
func Blank(w, h int) (api.Bits, api.Errno) {
	if e := CheckSize(w, h); e != api.OK {
		return api.Bits{}, e
	}
	return api.Bits{W: w, H: h, P: make([]bool, w*h)}, api.OK
}

// Fill makes w by h values, row by row, as at tells them; it leaves the check of the size to its caller.
func Fill[T any](w, h int, at func(x, y int) T) []T {
	p := make([]T, 0, w*h)
	for y := range h {
		for x := range w {
			p = append(p, at(x, y))
		}
	}
	return p
}

// Rounded is a / b, rounded; a is not negative, and b is positive.
func Rounded(a, b int) int { return (2*a + b) / (2 * b) }

// Outside reports whether n is not from least to most.
func Outside(n, least, most int) bool { return n < least || n > most }
