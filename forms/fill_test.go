package forms_test

import (
	"fmt"
	"strings"
	"testing"

	"flatbed/api"
	"flatbed/bar"
	"flatbed/forms"
	"flatbed/glyph"
)

// small has a page that can be looked at.
func small() api.Form {
	return api.Form{
		Name: "small", W: 16, H: 9, Reach: 1, Dark: 500, Anchors: []api.Anchor{anchor(0, 0, "##", "#.")},
		Fields: []api.Field{
			textField("line", box(3, 0, 9, 6), 0), markField("one", box(0, 6, 3, 2), box(4, 6, 1, 1)),
			manyField("some", box(7, 6, 2, 3), box(10, 6, 2, 2), box(13, 6, 3, 1)),
		},
	}
}

func TestPaper(t *testing.T) {
	b, e := forms.Paper(small())
	wantBits(t, "small", b, e, draw("##..............", "#...............", "................", "................", "................",
		"................", "................", "................", "................"))
	for _, f := range goodForms() {
		b, e := forms.Paper(f)
		wantBits(t, f.Name, b, e, fillByPromise(t, f, nil, tiny()))
	}
	for _, bad := range flawsInOrder() {
		f := order()
		bad.spoil(&f)
		b, e := forms.Paper(f)
		failBits(t, bad.what, b, e, bad.want)
	}
}

func TestFill(t *testing.T) {
	b, e := forms.Fill(small(), []api.Value{marks("some", 0, 2), text("line", "21"), marks("one", 1)}, tiny())
	wantBits(t, "small", b, e, draw(
		"##.####.#.......",
		"#.....#.#.......",
		"...####.#.......",
		"...#....#.......",
		"...####.#.......",
		"................",
		"....#..##....###",
		".......##.......",
		".......##.......",
	))
	b, e = forms.Fill(small(), []api.Value{marks("one", 0), text("line", ""), marks("some", 1)}, tiny())
	wantBits(t, "small", b, e, draw(
		"##..............",
		"#...............",
		"................",
		"................",
		"................",
		"................",
		"###.......##....",
		"###.......##....",
		"................",
	))
	for _, l := range [][]api.Value{nil, {}, {text("line", "")}, {marks("one"), marks("some"), text("line", "")}, {{Field: "one", Marks: []int{}}}} {
		b, e := forms.Fill(small(), l, tiny())
		paper, _ := forms.Paper(small())
		wantBits(t, "empty", b, e, paper)
	}
}

// manyValues are values of the form order.
func manyValues() [][]api.Value {
	return [][]api.Value{
		{text("number", "12"), text("sku", "4006381333931"), marks("paid", 1), marks("ways", 0, 1, 2), text("again", "x 0"), text("other-sku", "A")},
		{text("other-sku", "Z"), text("sku", "0-9"), marks("paid", 0), marks("ways", 1), text("number", "0 102x")},
		{text("sku", "0000000000000"), text("again", "10 10"), marks("ways", 0, 2)},
		{text("sku", "4 2"), marks("ways", 2), text("again", "1")},
		{text("sku", " "), text("number", "2"), text("other-sku", "*"[:0])},
		{marks("paid"), text("sku", "$/+"), text("other-sku", ".")},
	}
}

func TestFillMany(t *testing.T) {
	for i, l := range manyValues() {
		b, e := forms.Fill(order(), l, tiny())
		wantBits(t, fmt.Sprint(i), b, e, fillByPromise(t, order(), l, tiny()))
	}
	f := greatest()
	var l []api.Value
	for i, d := range f.Fields {
		if i%2 == 0 {
			l = append(l, marks(d.Name, 0, 1, 2, 3, 4, 5, 6, 7, 8, 9, 10, 11, 12, 13, 14, 15, 16, 17, 18, 19))
		} else {
			l = append(l, marks(d.Name, 19))
		}
	}
	b, e := forms.Fill(f, l, tiny())
	wantBits(t, "greatest", b, e, fillByPromise(t, f, l, tiny()))
}

// TestFillFull has texts that just go in, and those that are wider or higher by one.
func TestFillFull(t *testing.T) {
	const ean, many = "4006381333931", "0123456789ABCDEFGHIJKLMNOPQRSTUVWXYZ-. $"
	for _, c := range []struct {
		kind, w, h int
		text       string
	}{
		{api.FieldText, 1, 5, "1"}, {api.FieldText, 9, 5, "10"}, {api.FieldText, 3, 5, "11"}, {api.FieldText, 5, 5, "1 1"}, {api.FieldText, 66, 5, "22 00 xx 10x2"},
		{api.FieldCode, 95, 1, ean}, {api.FieldCode, 63, 1, "A"}, {api.FieldCode, 79, 1, "AA"}, {api.FieldCode, 687, 1, many},
		{api.FieldCode, 223, 1, "400638133393"[:11]}, {api.FieldCode, 255, 1, "400638133393A"}, {api.FieldCode, 271, 1, ean + "0"},
	} {
		f := api.Form{Name: "a", W: 800, H: 10, Dark: 1, Fields: []api.Field{{Name: "b", Kind: c.kind, Box: box(3, 2, c.w, c.h)}}}
		l := []api.Value{text("b", c.text)}
		what := fmt.Sprint(c.kind, c.text)
		b, e := forms.Fill(f, l, tiny())
		wantBits(t, what, b, e, fillByPromise(t, f, l, tiny()))
		f.Fields[0].Box.H++
		b, e = forms.Fill(f, l, tiny())
		wantBits(t, what+" with a row more", b, e, fillByPromise(t, f, l, tiny()))
		if c.kind == api.FieldText {
			f.Fields[0].Box.H -= 2
			b, e = forms.Fill(f, l, tiny())
			failBits(t, what+" too high", b, e, api.ErrFull)
			f.Fields[0].Box.H = 8
		}
		if f.Fields[0].Box.W--; c.w > 1 {
			b, e = forms.Fill(f, l, tiny())
			failBits(t, what+" too wide", b, e, api.ErrFull)
		}
	}
	// What does not go in would be too large for a page.
	f := api.Form{Name: "a", W: 262, H: 4000, Dark: 1, Fields: []api.Field{codeField("b", box(0, 0, 262, 4000))}}
	b, e := forms.Fill(f, []api.Value{text("b", many)}, tiny())
	failBits(t, "a high code", b, e, api.ErrFull)
	b, e = forms.Fill(f, []api.Value{text("b", "ABC")}, tiny())
	wantBits(t, "a high code", b, e, fillByPromise(t, f, []api.Value{text("b", "ABC")}, tiny()))
}

// A badValue is wrong in some ways; the first one of them in the promise is the error.
type badValue struct {
	v    api.Value
	want api.Errno
}

// badValues are wrong in the form order, whose field `paid` has been given a value already.
func badValues() []badValue {
	all := func(field, text string, sure int, marks ...int) api.Value {
		return api.Value{Field: field, Text: text, Sure: sure, Marks: marks}
	}
	return []badValue{
		{all("none", "12", 0), api.ErrNone}, {all("", "", 0), api.ErrNone}, {all("Number", "12", 0), api.ErrNone}, {all("number ", "", 5, 3, 2), api.ErrNone},
		{all("paid", "", 0, 0), api.ErrTwice}, {all("paid", "", 0), api.ErrTwice}, {all("paid", "x", 1, 9, 9), api.ErrTwice},
		{all("number", "", 1), api.ErrForm}, {all("sku", "", -1), api.ErrForm}, {all("ways", "", 1000, 0), api.ErrForm}, {all("number", "qqq", mostInt), api.ErrForm},
		{all("number", "", 0, 0), api.ErrForm}, {all("number", "12", 0, 0), api.ErrForm}, {all("sku", "", 0, -1), api.ErrForm}, {all("sku", "?", 0, 1, 2), api.ErrForm},
		{all("ways", "1", 0), api.ErrForm}, {all("ways", "1", 0, 0), api.ErrForm}, {all("ways", " ", 0, 9), api.ErrForm},
		{all("ways", "", 0, 0, 0), api.ErrForm}, {all("ways", "", 0, 1, 0), api.ErrForm}, {all("ways", "", 0, 0, 2, 1), api.ErrForm}, {all("ways", "", 0, 9, 9), api.ErrForm},
		{all("ways", "", 0, 0, leastInt), api.ErrForm}, {all("ways", "", 0, mostInt, mostInt), api.ErrForm},
		{all("ways", "", 0, 3), api.ErrRange}, {all("ways", "", 0, -1), api.ErrRange}, {all("ways", "", 0, 0, 1, 2, 3), api.ErrRange}, {all("ways", "", 0, -1, 0), api.ErrRange},
		{all("ways", "", 0, leastInt, mostInt), api.ErrRange}, {all("ways", "", 0, 1<<32), api.ErrRange}, {all("ways", "", 0, 0, 1<<32+1), api.ErrRange},
	}
}

// badTexts are values of the form order whose texts cannot be drawn.
func badTexts() []badValue {
	return []badValue{
		{text("number", strings.Repeat("1", 201)), api.ErrLarge}, {text("number", strings.Repeat(" ", 201)), api.ErrLarge},
		{text("number", " 1"), api.ErrForm}, {text("number", "1 "), api.ErrForm}, {text("number", "1  1"), api.ErrForm}, {text("number", " "), api.ErrForm},
		{text("number", "3"), api.ErrNone}, {text("number", "1\n1"), api.ErrNone}, {text("number", "ä"), api.ErrNone}, {text("number", strings.Repeat("x", 199)+"y"), api.ErrNone},
		{text("number", strings.Repeat("x", 200)), api.ErrFull}, {text("number", "2222222222"), api.ErrFull},
		{text("sku", "4006381333930"), api.ErrSum}, {text("sku", "1000000000000"), api.ErrSum}, {text("sku", "a"), api.ErrForm}, {text("sku", "*"), api.ErrForm},
		{text("sku", "400638133393a"), api.ErrForm}, {text("sku", strings.Repeat("1", 41)), api.ErrLarge}, {text("sku", strings.Repeat("a", 41)), api.ErrLarge},
		{text("sku", strings.Repeat("a", 40)), api.ErrForm}, {text("sku", strings.Repeat("1", 40)), api.ErrFull}, {text("sku", "4006381333931 "), api.ErrFull},
		{text("other-sku", "4006381333931"), api.ErrFull}, {text("other-sku", "AB"), api.ErrFull},
	}
}

// TestFillErrors has two bad values: the first one decides, whatever the second one has.
func TestFillErrors(t *testing.T) {
	bad := append(badValues(), badTexts()...)
	for _, first := range bad {
		l := []api.Value{marks("paid", 1), first.v}
		b, e := forms.Fill(order(), l, tiny())
		failBits(t, fmt.Sprint(l), b, e, first.want)
		for _, second := range bad {
			l := []api.Value{marks("paid", 1), first.v, text("again", "1"), second.v}
			b, e := forms.Fill(order(), l, tiny())
			failBits(t, fmt.Sprint(l), b, e, first.want)
		}
	}
	for _, l := range [][]int{{0, 1}, {-1, 5}, {1, 0}, {0, 0}, {5, 6}, {0, 1, 2}} {
		b, e := forms.Fill(order(), []api.Value{marks("paid", l...)}, tiny())
		failBits(t, fmt.Sprint("paid", l), b, e, api.ErrForm)
	}
	for _, i := range wrongNumbers(0, 1) {
		b, e := forms.Fill(order(), []api.Value{marks("paid", i)}, tiny())
		failBits(t, fmt.Sprint("paid", i), b, e, api.ErrRange)
	}
}

// TestFillSize has a text that is too wide for a page, and a font that is too high for a box.
func TestFillSize(t *testing.T) {
	f := api.Form{Name: "a", W: 4000, H: 262, Dark: 1, Fields: []api.Field{textField("b", box(0, 0, 4000, 262), 0)}}
	_, want := glyph.Set(letters(64, 64), strings.Repeat("i", 200))
	b, e := forms.Fill(f, []api.Value{text("b", strings.Repeat("i", 200))}, letters(64, 64))
	if failBits(t, "too wide for a page", b, e, want); e != api.ErrRange {
		t.Error(e)
	}
	b, e = forms.Fill(f, []api.Value{text("b", strings.Repeat("i", 61))}, letters(64, 64))
	wantBits(t, "as wide as the box", b, e, fillByPromise(t, f, []api.Value{text("b", strings.Repeat("i", 61))}, letters(64, 64)))
	b, e = forms.Fill(f, []api.Value{text("b", strings.Repeat("i", 62))}, letters(64, 64))
	failBits(t, "wider than the page", b, e, api.ErrRange)
	f.Fields[0].Box.W = 3900
	b, e = forms.Fill(f, []api.Value{text("b", strings.Repeat("i", 61))}, letters(64, 64))
	failBits(t, "wider than the box", b, e, api.ErrFull)
	f.Fields[0].Box.H = 63
	b, e = forms.Fill(f, []api.Value{text("b", "i")}, letters(64, 64))
	failBits(t, "higher than the box", b, e, api.ErrFull)
	b, e = forms.Fill(f, []api.Value{text("b", "")}, letters(64, 64))
	wantBits(t, "no text", b, e, plain(4000, 262, false))
}

func TestFillFont(t *testing.T) {
	for _, bad := range badFonts() {
		for _, l := range [][]api.Value{nil, {text("none", "")}, {text("number", "3")}} {
			b, e := forms.Fill(order(), l, bad.font)
			failBits(t, bad.font.Name, b, e, bad.want)
		}
		for _, flaw := range flawsInOrder() {
			f := order()
			flaw.spoil(&f)
			b, e := forms.Fill(f, []api.Value{text("none", "")}, bad.font)
			failBits(t, flaw.what, b, e, flaw.want)
		}
	}
}

type badFont struct {
	font api.Font
	want api.Errno
}

func badFonts() []badFont {
	spoilt := func(spoil func(f *api.Font)) api.Font {
		f := tiny()
		spoil(&f)
		return f
	}
	return []badFont{
		{api.Font{}, api.ErrName}, {spoilt(func(f *api.Font) { f.Height = 0 }), api.ErrRange}, {spoilt(func(f *api.Font) { f.Space = 1 }), api.ErrOrder},
		{spoilt(func(f *api.Font) { f.Letters = nil }), api.ErrEmpty}, {spoilt(func(f *api.Font) { f.Letters = make([]api.Letter, 201) }), api.ErrLarge},
		{spoilt(func(f *api.Font) { f.Letters[1].Text = "" }), api.ErrForm}, {spoilt(func(f *api.Font) { f.Letters[1].Text = "1" }), api.ErrTwice},
		{spoilt(func(f *api.Font) { f.Letters[1].Bits = plain(1, 6, true) }), api.ErrConflict},
	}
}

// TestFillCodes reads what was drawn, module by module.
func TestFillCodes(t *testing.T) {
	f := api.Form{Name: "a", W: 120, H: 7, Dark: 1, Fields: []api.Field{codeField("b", box(9, 2, 111, 4))}}
	for _, digits := range []string{"4006381333931", "0000000000000", "9999999999994"} {
		b, e := forms.Fill(f, []api.Value{text("b", digits)}, tiny())
		if e != api.OK {
			t.Fatal(e)
		}
		modules, _ := bar.EAN(digits)
		for i, ink := range b.P {
			x, y := i%120-9, i/120
			want := y >= 2 && y < 6 && x >= 0 && x < 95 && modules[x] == '1'
			if ink != want {
				t.Error(digits, x, y)
			}
		}
	}
}
