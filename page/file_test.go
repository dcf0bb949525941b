package page_test

import (
	"strings"
	"testing"

	"flatbed/api"
	"flatbed/page"
)

func TestEncode(t *testing.T) {
	for _, c := range []struct {
		page api.Gray
		want string
	}{
		{gray(1, 1, 0), "P5\n1 1\n255\n\x00"},
		{gray(3, 2, 0, 10, 200, 20, 31, 255), "P5\n3 2\n255\n\x00\x0a\xc8\x14\x1f\xff"},
		{gray(1, 2, 10, 32), "P5\n1 2\n255\n\n "},
		{plainGray(4000, 262), "P5\n4000 262\n255\n" + strings.Repeat("\x00", 4000*262)},
	} {
		if b, e := page.Encode(c.page); string(b) != c.want || e != api.OK {
			t.Errorf("%.30q %d; want %.30q", b, e, c.want)
		}
	}
}

func TestDecodeOfEncode(t *testing.T) {
	for _, size := range append(goodSizes(), [2]int{10, 7}) {
		g := mixed(size[0], size[1])
		b, _ := page.Encode(g)
		x, e := page.Decode(b)
		if e != api.OK || !sameGray(x, g) {
			t.Error(size, x.W, x.H, e)
		}
	}
}

func zeros(n int) string { return strings.Repeat("\x00", n) }

func wantDecoded(t *testing.T, errors map[string]api.Errno) {
	t.Helper()
	for text, want := range errors {
		g, e := page.Decode([]byte(text))
		if e != want {
			t.Errorf("%.30q (%d bytes): error %d, want %d", text, len(text), e, want)
		}
		if e != api.OK && !sameGray(g, api.Gray{}) {
			t.Errorf("%.30q: a page with an error", text)
		}
	}
}

func TestDecodeForm(t *testing.T) {
	wantDecoded(t, map[string]api.Errno{
		"":                           api.ErrSyntax,
		"P5":                         api.ErrSyntax,
		"P5\n":                       api.ErrSyntax,
		"P5\n1":                      api.ErrSyntax,
		"P5\n1 ":                     api.ErrSyntax,
		"P5\n1 1":                    api.ErrSyntax,
		"P5\n1 1\n":                  api.ErrSyntax,
		"P5\n1 1\n255":               api.ErrSyntax,
		"P5\n1 1\n255\n":             api.ErrSyntax,
		"P5\n1 1\n255\nx":            api.OK,
		"P5\n1 1\n255\nxx":           api.ErrSyntax,
		"P5\n2 2\n255\nxxx":          api.ErrSyntax,
		"P5\n2 2\n255\nxxxxx":        api.ErrSyntax,
		"P4\n1 1\n255\nx":            api.ErrSyntax,
		"p5\n1 1\n255\nx":            api.ErrSyntax,
		"P5 1 1\n255\nx":             api.ErrSyntax,
		" P5\n1 1\n255\nx":           api.ErrSyntax,
		"P5\n1\n1\n255\nx":           api.ErrSyntax,
		"P5\n1  1\n255\nx":           api.ErrSyntax,
		"P5\n1 1 \n255\nx":           api.ErrSyntax,
		"P5\n1 1\n254\nx":            api.ErrSyntax,
		"P5\n1 1\n0255\nx":           api.ErrSyntax,
		"P5\n1 1\n255 x":             api.ErrSyntax,
		"P5\n1 1\r\n255\nx":          api.ErrSyntax,
		"P5\n# a\n1 1\n255\nx":       api.ErrSyntax,
		"P5\n01 1\n255\nx":           api.ErrSyntax,
		"P5\n1 01\n255\nx":           api.ErrSyntax,
		"P5\n0 1\n255\n":             api.ErrSyntax,
		"P5\n1 0\n255\n":             api.ErrSyntax,
		"P5\n0 0\n255\n":             api.ErrSyntax,
		"P5\n00 1\n255\n":            api.ErrSyntax,
		"P5\n -1\n255\nx":            api.ErrSyntax,
		"P5\n-1 -1\n255\nx":          api.ErrSyntax,
		"P5\n+1 1\n255\nx":           api.ErrSyntax,
		"P5\n 1\n255\nx":             api.ErrSyntax,
		"P5\n1 \n255\nx":             api.ErrSyntax,
		"P5\nx 1\n255\nx":            api.ErrSyntax,
		"P5\n1 :\n255\n" + zeros(10): api.ErrSyntax,
		"P5\n1 /\n255\n":             api.ErrSyntax,
		"P5\n00001 1\n255\nx":        api.ErrSyntax,
	})
}

// TestDecodeSizes has the errors in their order: too many bytes, then wrong numbers, then wrong sizes.
func TestDecodeSizes(t *testing.T) {
	wantDecoded(t, map[string]api.Errno{
		"P5\n10000 1\n255\n" + zeros(10000):              api.ErrSyntax,
		"P5\n1 10000\n255\n" + zeros(10000):              api.ErrSyntax,
		"P5\n4001 1\n255\n" + zeros(4001):                api.ErrRange,
		"P5\n1 4001\n255\n" + zeros(4001):                api.ErrRange,
		"P5\n9999 104\n255\n" + zeros(9999*104):          api.ErrRange,
		"P5\n9999 9999\n255\n" + zeros(100):              api.ErrSyntax,
		"P5\n4001 1\n255\n" + zeros(4000):                api.ErrSyntax,
		"P5\n2405 436\n255\n" + zeros(2405*436):          api.ErrLarge,
		"P5\n2405 436\n255\n" + zeros(2405*436+10):       api.ErrSyntax,
		"P5\n2405 436\n255\n" + zeros(2405*436+11):       api.ErrLarge,
		"P5\n1024 1024\n255\n" + zeros(api.MaxPixels):    api.OK,
		"P5\n1024 1024\n255\n" + zeros(api.MaxPixels+1):  api.ErrSyntax,
		strings.Repeat("x", api.MaxPixels+30):            api.ErrSyntax,
		strings.Repeat("x", api.MaxPixels+31):            api.ErrLarge,
		"P5\n1024 1024\n255\n" + zeros(api.MaxPixels+13): api.ErrSyntax,
		"P5\n1024 1024\n255\n" + zeros(api.MaxPixels+14): api.ErrLarge,
	})
}

func TestPack(t *testing.T) {
	for _, c := range []struct {
		page api.Bits
		want string
	}{
		{draw("#"), "P4\n1 1\n\x80"},
		{draw("."), "P4\n1 1\n\x00"},
		{draw("##.", "..#"), "P4\n3 2\n\xc0\x20"},
		{draw("#.....#.", ".......#"), "P4\n8 2\n\x82\x01"},
		{draw("........#", "#.......#"), "P4\n9 2\n\x00\x80\x80\x80"},
		{draw("#######"), "P4\n7 1\n\xfe"},
		{draw("################"), "P4\n16 1\n\xff\xff"},
		{plain(4000, 262), "P4\n4000 262\n" + strings.Repeat("\x00", 500*262)},
	} {
		if b, e := page.Pack(c.page); string(b) != c.want || e != api.OK {
			t.Errorf("%.30q %d; want %.30q", b, e, c.want)
		}
	}
}

func TestUnpackOfPack(t *testing.T) {
	sizes := goodSizes()
	for w := range 18 {
		sizes = append(sizes, [2]int{w + 1, 5})
	}
	for _, size := range sizes {
		b := mixedBits(size[0], size[1])
		p, _ := page.Pack(b)
		x, e := page.Unpack(p)
		if e != api.OK || !sameBits(x, b) {
			t.Error(size, x.W, x.H, e)
		}
	}
}

// TestUnpackFilled sets each bit alone: those behind the end of a row are errors, the others ink.
func TestUnpackFilled(t *testing.T) {
	for w := 1; w <= 17; w++ {
		b := plain(w, 3)
		p, _ := page.Pack(b)
		row := (w + 7) / 8
		rows := len(p) - 3*row
		for bit := range 3 * row * 8 {
			p[rows+bit/8] |= 0x80 >> (bit % 8)
			x, e := page.Unpack(p)
			at, y := bit%(row*8), bit/(row*8)
			if at >= w {
				failBits(t, "Unpack", x, e, api.ErrSyntax)
			} else {
				b.P[y*w+at] = true
				wantBits(t, "Unpack", x, e, b)
				b.P[y*w+at] = false
			}
			p[rows+bit/8] = 0
		}
	}
}

func TestUnpackErrors(t *testing.T) {
	for text, want := range map[string]api.Errno{
		"":                                             api.ErrSyntax,
		"P4\n":                                         api.ErrSyntax,
		"P4\n1 1\n":                                    api.ErrSyntax,
		"P4\n1 1\n\x80":                                api.OK,
		"P4\n1 1\n\x80\x00":                            api.ErrSyntax,
		"P4\n1 1\n\x40":                                api.ErrSyntax,
		"P4\n1 1\n255\n\x80":                           api.ErrSyntax,
		"P5\n1 1\n\x80":                                api.ErrSyntax,
		"P4\n9 1\n\x80":                                api.ErrSyntax,
		"P4\n9 1\n\x80\x80\x00":                        api.ErrSyntax,
		"P4\n8 2\n\x80":                                api.ErrSyntax,
		"P4\n0 1\n":                                    api.ErrSyntax,
		"P4\n1 0\n":                                    api.ErrSyntax,
		"P4\n01 1\n\x80":                               api.ErrSyntax,
		"P4\n1 01\n\x80":                               api.ErrSyntax,
		"P4\n1  1\n\x80":                               api.ErrSyntax,
		"P4\n1 1 \x80":                                 api.ErrSyntax,
		"P4\n-1 1\n\x80":                               api.ErrSyntax,
		"P4\n10000 1\n" + zeros(1250):                  api.ErrSyntax,
		"P4\n1 10000\n" + zeros(10000):                 api.ErrSyntax,
		"P4\n4001 1\n" + zeros(501):                    api.ErrRange,
		"P4\n4001 1\n" + zeros(500) + "\x01":           api.ErrSyntax,
		"P4\n1 4001\n" + zeros(4001):                   api.ErrRange,
		"P4\n9999 1\n" + zeros(1250):                   api.ErrRange,
		"P4\n9999 1\n" + zeros(1249):                   api.ErrSyntax,
		"P4\n4000 4000\n" + zeros(500*2):               api.ErrSyntax,
		"P4\n2000 2000\n" + zeros(250*2000):            api.ErrLarge,
		"P4\n1025 1024\n" + zeros(129*1024):            api.ErrLarge,
		"P4\n1024 1024\n" + zeros(128*1024):            api.OK,
		strings.Repeat("x", api.MaxPixels+30):          api.ErrSyntax,
		strings.Repeat("x", api.MaxPixels+31):          api.ErrLarge,
		"P4\n1025 1024\n" + zeros(129*1024-1) + "\x01": api.ErrSyntax,
		"P4\n1024 1024\n" + zeros(api.MaxPixels+18):    api.ErrLarge,
		"P4\n1024 1024\n" + zeros(api.MaxPixels+17):    api.ErrSyntax,
	} {
		b, e := page.Unpack([]byte(text))
		if e != want {
			t.Errorf("%.30q (%d bytes): error %d, want %d", text, len(text), e, want)
		}
		if e != api.OK && !sameBits(b, api.Bits{}) {
			t.Errorf("%.30q: a page with an error", text)
		}
	}
}
