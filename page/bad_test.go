package page_test

import (
	"testing"

	"flatbed/api"
	"flatbed/page"
)

// Besides the page, other arguments are wrong here, too: the error of the page comes first.

// eachBadPage gives pages with each of the three errors.
func eachBadPage(try func(b api.Bits, g api.Gray, want api.Errno)) {
	for want, size := range map[api.Errno][2]int{api.ErrRange: {0, 0}, api.ErrLarge: {2000, 2000}, api.ErrForm: {2, 2}} {
		b := api.Bits{W: size[0], H: size[1], P: make([]bool, 3)}
		g := api.Gray{W: size[0], H: size[1], P: make([]byte, 3)}
		try(b, g, want)
	}
}

func TestBadPagesToBits(t *testing.T) {
	eachBadPage(func(b api.Bits, g api.Gray, want api.Errno) {
		for name, call := range map[string]func() (api.Bits, api.Errno){
			"Cut":          func() (api.Bits, api.Errno) { return page.Cut(b, api.Box{X: -1}) },
			"Turn":         func() (api.Bits, api.Errno) { return page.Turn(b, 1) },
			"Mirror":       func() (api.Bits, api.Errno) { return page.Mirror(b) },
			"Invert":       func() (api.Bits, api.Errno) { return page.Invert(b) },
			"Grow":         func() (api.Bits, api.Errno) { return page.Grow(b, 17) },
			"Paste":        func() (api.Bits, api.Errno) { return page.Paste(b, draw("#"), 0, 0) },
			"Paste second": func() (api.Bits, api.Errno) { return page.Paste(draw("#"), b, 9, 9) },
			"Paste both":   func() (api.Bits, api.Errno) { return page.Paste(b, api.Bits{W: 4001}, 0, 0) },
			"ToBits":       func() (api.Bits, api.Errno) { return page.ToBits(g, -1) },
		} {
			x, e := call()
			failBits(t, name, x, e, want)
		}
	})
}

func TestBadPagesToGray(t *testing.T) {
	eachBadPage(func(b api.Bits, g api.Gray, want api.Errno) {
		for name, call := range map[string]func() (api.Gray, api.Errno){
			"CutGray":  func() (api.Gray, api.Errno) { return page.CutGray(g, api.Box{X: -1}) },
			"TurnGray": func() (api.Gray, api.Errno) { return page.TurnGray(g, 1) },
			"Halve":    func() (api.Gray, api.Errno) { return page.Halve(g) },
			"ToGray":   func() (api.Gray, api.Errno) { return page.ToGray(b) },
		} {
			x, e := call()
			failGray(t, name, x, e, want)
		}
	})
}

func TestBadPagesToNumbers(t *testing.T) {
	eachBadPage(func(b api.Bits, g api.Gray, want api.Errno) {
		for name, call := range map[string]func() ([]int, api.Errno){
			"Histogram": func() ([]int, api.Errno) { return page.Histogram(g) },
			"Rows":      func() ([]int, api.Errno) { return page.Rows(b) },
			"Columns":   func() ([]int, api.Errno) { return page.Columns(b) },
			"Means":     func() ([]int, api.Errno) { return page.Means(g, -1) },
		} {
			x, e := call()
			failInts(t, name, x, e, want)
		}
		for name, call := range map[string]func() (int, api.Errno){
			"Ink":           func() (int, api.Errno) { return page.Ink(b, api.Box{X: -1}) },
			"Differ":        func() (int, api.Errno) { return page.Differ(b, draw("#")) },
			"Differ second": func() (int, api.Errno) { return page.Differ(draw("#"), b) },
			"Differ both":   func() (int, api.Errno) { return page.Differ(b, api.Bits{W: 4001}) },
		} {
			x, e := call()
			failInt(t, name, x, e, want)
		}
		if x, e := page.Bounds(b); e != want || x != (api.Box{}) {
			t.Error("Bounds", x, e)
		}
	})
}

// TestBadPagesOrder has two bad pages: the error of the first one is returned, whichever of the errors it is.
func TestBadPagesOrder(t *testing.T) {
	range0, form := api.Bits{}, api.Bits{W: 1, H: 1}
	x, e := page.Paste(form, range0, 0, 0)
	failBits(t, "Paste", x, e, api.ErrForm)
	x, e = page.Paste(range0, form, 0, 0)
	failBits(t, "Paste", x, e, api.ErrRange)
	n, e := page.Differ(form, range0)
	failInt(t, "Differ", n, e, api.ErrForm)
	n, e = page.Differ(range0, form)
	failInt(t, "Differ", n, e, api.ErrRange)
}

func TestBadPagesToText(t *testing.T) {
	eachBadPage(func(b api.Bits, g api.Gray, want api.Errno) {
		if x, e := page.Print(b); e != want || x != "" {
			t.Error("Print", x, e)
		}
		if x, e := page.Encode(g); e != want || len(x) != 0 {
			t.Error("Encode", x, e)
		}
		if x, e := page.Pack(b); e != want || len(x) != 0 {
			t.Error("Pack", x, e)
		}
	})
}
