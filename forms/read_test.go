package forms_test

import (
	"fmt"
	"slices"
	"testing"

	"flatbed/api"
	"flatbed/bar"
	"flatbed/forms"
	"flatbed/glyph"
	"flatbed/page"
)

func filled(t *testing.T, f api.Form, l []api.Value, font api.Font) api.Bits {
	t.Helper()
	b, e := forms.Fill(f, l, font)
	if e != api.OK {
		t.Fatal("Fill", f.Name, l, e)
	}
	return b
}

// valuesOf are all fields of a form in order: those without a value are empty, and all are sure.
func valuesOf(f api.Form, l []api.Value) []api.Value {
	var all []api.Value
	for _, d := range f.Fields {
		v := api.Value{Field: d.Name}
		for _, given := range l {
			if given.Field == d.Name {
				v = given
			}
		}
		v.Sure = 1000
		all = append(all, v)
	}
	return all
}

// TestReadFilled moves filled forms by all that is told, where no ink is lost.
func TestReadFilled(t *testing.T) {
	for _, l := range append(manyValues(), nil) {
		f := order()
		b := filled(t, f, l, tiny())
		for dx := -3; dx <= 3; dx++ {
			for dy := -3; dy <= 3; dy++ {
				p, e := forms.Offset(f, moved(b, dx, dy))
				if e != api.OK || p != (api.Point{X: dx, Y: dy}) {
					t.Error(p, dx, dy, e)
				}
				got, e := forms.Read(f, moved(b, dx, dy), tiny())
				wantValues(t, fmt.Sprint(l, dx, dy), got, e, valuesOf(f, l))
			}
		}
		// Without anchors, a page that is not moved is read as well.
		f.Anchors = nil
		got, e := forms.Read(f, filled(t, f, l, tiny()), tiny())
		wantValues(t, fmt.Sprint(l), got, e, valuesOf(f, l))
	}
	f := greatest()
	l := []api.Value{marks(f.Fields[1].Name, 19), marks(f.Fields[0].Name, 0, 7, 19), marks(f.Fields[48].Name, 3)}
	got, e := forms.Read(f, filled(t, f, l, tiny()), tiny())
	wantValues(t, "greatest", got, e, valuesOf(f, l))
}

func TestMark(t *testing.T) {
	f := api.Form{Name: "a", W: 40, H: 12, Reach: 2, Anchors: []api.Anchor{anchor(25, 3, "#.", "##")}}
	f.Fields = []api.Field{manyField("m", box(3, 3, 5, 4), box(9, 3, 1, 1), box(11, 3, 3, 1), box(14, 4, 4, 5)), codeField("c", box(30, 2, 3, 3))}
	for _, c := range []struct{ dark, ink0, ink2, ink3 int }{
		{1, 1, 1, 1}, {50, 1, 1, 1}, {51, 2, 1, 2}, {333, 7, 1, 7}, {334, 7, 2, 7}, {500, 10, 2, 10}, {501, 11, 2, 11}, {666, 14, 2, 14}, {667, 14, 3, 14}, {999, 20, 3, 20}, {1000, 20, 3, 20},
	} {
		f.Dark = c.dark
		for _, d := range []api.Point{{}, {X: 2, Y: -2}, {X: -1, Y: 1}} {
			for _, less := range []int{0, 1} {
				b, _ := forms.Paper(f)
				for k, n := range map[int]int{0: c.ink0 - less, 1: 1 - less, 2: c.ink2 - less, 3: c.ink3 - less} {
					m := f.Fields[0].Marks[k]
					for i := range n {
						b.P[(m.Y+m.H-1-i/m.W)*40+m.X+i%m.W] = true
					}
				}
				l, e := forms.Mark(f, moved(b, d.X, d.Y), "m")
				want := []int{0, 1, 2, 3}
				if less > 0 {
					want = nil
				}
				wantList(t, fmt.Sprint(c, d, less), l, e, want)
			}
		}
	}
	b := plain(40, 12, true)
	for name, want := range map[string]api.Errno{"c": api.ErrKind, "": api.ErrNone, "M": api.ErrNone, "m ": api.ErrNone, "0": api.ErrNone} {
		l, e := forms.Mark(f, b, name)
		failList(t, name, l, e, want)
	}
	for name, want := range map[string]api.Errno{"number": api.ErrKind, "sku": api.ErrKind, "paid": api.OK, "ways": api.OK} {
		l, e := forms.Mark(order(), plain(130, 60, false), name)
		failList(t, name, l, e, want)
	}
}

// TestReadMarks has forms of which one mark, or several, can be marked.
func TestReadMarks(t *testing.T) {
	f := order()
	for _, c := range []struct {
		paid, ways []int
		sure       int
	}{
		{nil, nil, 1000}, {[]int{0}, []int{0, 1, 2}, 1000}, {[]int{1}, []int{2}, 1000}, {[]int{0, 1}, []int{0, 1}, 0}, {[]int{0, 1}, nil, 0},
	} {
		b := filled(t, f, []api.Value{marks("ways", c.ways...)}, tiny())
		for _, i := range c.paid {
			page.Put(b, plain(4, 4, true), f.Fields[2].Marks[i].X, f.Fields[2].Marks[i].Y)
		}
		want := valuesOf(f, []api.Value{marks("ways", c.ways...), marks("paid", c.paid...)})
		want[2].Sure = c.sure
		got, e := forms.Read(f, b, tiny())
		wantValues(t, fmt.Sprint(c), got, e, want)
		l, e := forms.Mark(f, b, "paid")
		wantList(t, "paid", l, e, c.paid)
	}
}

// TestReadText has pieces that differ from letters, or are none.
func TestReadText(t *testing.T) {
	f := api.Form{Name: "a", W: 40, H: 12, Dark: 1, Fields: []api.Field{textField("t", box(2, 3, 36, 7), 0)}}
	for _, c := range []struct {
		rows []string
		most int
		text string
		sure int
	}{
		{[]string{".", ".", ".", ".", "."}, 0, "", 1000},
		{[]string{"#", "#", "#", "#", "#"}, 0, "1", 1000},
		{[]string{"......#..", "......#..", "......#..", "......#..", "......#.."}, 0, "1", 1000},
		{[]string{"#...#", "#...#", "#...#", "#...#", "#...#"}, 0, "1 1", 1000},
		// One pixel of 5 differs: 200 thousandths.
		{[]string{"#", "#", ".", "#", "#"}, 200, "1", 800},
		{[]string{"#", "#", ".", "#", "#"}, 199, "?", 0},
		{[]string{"#", "#", ".", "#", "#"}, 1000, "1", 800},
		// One pixel of 25, next to a letter that is whole: 1 of 50, and 1 of 30.
		{[]string{"#####.#####", "#...#.#...#", "#.....#...#", "#...#.#...#", "#####.#####"}, 40, "00", 980},
		{[]string{"#####.#", "#...#.#", "#.....#", "#...#.#", "#####.#"}, 40, "01", 967},
		{[]string{"#####.#", "#...#.#", "#.....#", "#...#.#", "#####.#"}, 39, "?1", 0},
		// The space between does not count.
		{[]string{"#####.........#", "#...#.........#", "#.............#", "#...#.........#", "#####.........#"}, 40, "0 1", 967},
		{[]string{"#####.........#", "#...#.........#", "###...........#", "#...#.........#", "#####.........#"}, 0, "? 1", 0},
		{[]string{"#", "#", "#", "#", "#", "#", "#"}, 0, "1", 1000},
		{[]string{".", ".", ".", ".", ".", "#", "#"}, 0, "", 1000},
	} {
		f.Fields[0].Most = c.most
		b := plain(40, 12, false)
		page.Put(b, draw(c.rows...), 2, 3)
		got, e := forms.Read(f, b, tiny())
		wantValues(t, fmt.Sprint(c), got, e, []api.Value{{Field: "t", Text: c.text, Sure: c.sure}})
		wantValues(t, fmt.Sprint(c), got, e, readByPromise(t, f, b, tiny()))
	}
}

// TestReadUnsure has a font whose letters have so little ink that more pixels differ than a piece has.
func TestReadUnsure(t *testing.T) {
	font := api.Font{Name: "a", Height: 4, Gap: 1, Space: 2, Letters: []api.Letter{{Text: "b", Bits: plain(3, 4, true)}}}
	f := api.Form{Name: "a", W: 9, H: 4, Dark: 1, Fields: []api.Field{textField("t", box(0, 0, 9, 4), 1000)}}
	b := draw("........#", ".........", ".........", ".........")
	got, e := forms.Read(f, b, font)
	wantValues(t, "far from all", got, e, readByPromise(t, f, b, font))
	wantValues(t, "far from all", got, e, []api.Value{{Field: "t", Text: "?", Sure: 0}})
	b = draw("##.......", "..#......", ".........", ".........")
	got, e = forms.Read(f, b, font)
	wantValues(t, "far", got, e, []api.Value{{Field: "t", Text: "b", Sure: 250}})
}

// TestReadLeastSure has a piece that is recognized, though as many pixels differ as it has.
func TestReadLeastSure(t *testing.T) {
	font := api.Font{Name: "a", Height: 4, Gap: 1, Space: 2, Letters: []api.Letter{{Text: "b", Bits: plain(5, 4, true)}}}
	f := api.Form{Name: "a", W: 9, H: 4, Dark: 1, Fields: []api.Field{textField("t", box(0, 0, 9, 4), 1000)}}
	for _, c := range []struct {
		rows []string
		text string
		sure int
	}{
		{[]string{"###", "###", "##.", "..."}, "b", 0}, {[]string{"###", "###", "###", "..."}, "b", 84}, {[]string{"###", "###", "#..", "..."}, "?", 0},
	} {
		b := plain(9, 4, false)
		page.Put(b, draw(c.rows...), 3, 0)
		got, e := forms.Read(f, b, font)
		wantValues(t, fmt.Sprint(c), got, e, []api.Value{{Field: "t", Text: c.text, Sure: c.sure}})
		wantValues(t, fmt.Sprint(c), got, e, readByPromise(t, f, b, font))
	}
}

// codeRows is a page of the modules of codes, so many rows of each.
func codeRows(t *testing.T, w int, texts map[string]int, order ...string) api.Bits {
	t.Helper()
	b := api.Bits{W: w}
	for _, text := range order {
		modules, e := bar.Code39(text)
		if len(text) == 13 {
			modules, e = bar.EAN(text)
		}
		if text == "" {
			modules, e = "11", api.OK
		}
		if e != api.OK || len(modules) > w {
			t.Fatal(text, e)
		}
		row := make([]bool, w)
		for i := range modules {
			row[i] = modules[i] == '1'
		}
		for range texts[text] {
			b.P = append(b.P, row...)
			b.H++
		}
	}
	return b
}

func TestReadCode(t *testing.T) {
	const ean = "4006381333931"
	for _, c := range []struct {
		rows  map[string]int
		order []string
		text  string
		sure  int
	}{
		{map[string]int{ean: 9}, []string{ean}, ean, 1000},
		{map[string]int{ean: 4, "A": 5}, []string{ean, "A"}, "A", 555},
		{map[string]int{ean: 5, "A": 4}, []string{ean, "A"}, ean, 555},
		{map[string]int{ean: 3, "A": 3, "": 3}, []string{"A", "", ean}, "A", 333},
		{map[string]int{ean: 3, "A": 3, "": 3}, []string{"", ean, "A"}, ean, 333},
		{map[string]int{ean: 1, "": 8}, []string{"", ean}, ean, 111},
		{map[string]int{"": 9}, []string{""}, "", 0},
	} {
		drawn := codeRows(t, 95, c.rows, c.order...)
		f := api.Form{Name: "a", W: 99, H: 14, Dark: 1, Fields: []api.Field{codeField("c", box(2, 3, 95, 9))}}
		b := plain(99, 14, false)
		b.P[2*99+2], b.P[12*99+2], b.P[3*99+1], b.P[3*99+97] = true, true, true, true
		page.Put(b, drawn, 2, 3)
		got, e := forms.Read(f, b, tiny())
		wantValues(t, fmt.Sprint(c), got, e, []api.Value{{Field: "c", Text: c.text, Sure: c.sure}})
		wantValues(t, fmt.Sprint(c), got, e, readByPromise(t, f, b, tiny()))
		// Nothing is in the box, though there is ink around it.
		page.Put(b, plain(95, 9, false), 2, 3)
		got, e = forms.Read(f, b, tiny())
		wantValues(t, "empty", got, e, []api.Value{{Field: "c", Sure: 1000}})
	}
}

// TestReadCodeTwice has the same code twice in each row, so that it was read more often than the box has rows.
func TestReadCodeTwice(t *testing.T) {
	one := codeRows(t, 63, map[string]int{"A": 4}, "A")
	b := plain(130, 4, false)
	page.Put(b, one, 0, 0)
	page.Put(b, one, 66, 0)
	f := api.Form{Name: "a", W: 130, H: 4, Dark: 1, Fields: []api.Field{codeField("c", box(0, 0, 130, 4))}}
	got, e := forms.Read(f, b, tiny())
	wantValues(t, "twice", got, e, []api.Value{{Field: "c", Text: "A", Sure: 2000}})
	wantValues(t, "twice", got, e, readByPromise(t, f, b, tiny()))
}

// TestReadCodesLarge has more codes than bar.Find takes.
func TestReadCodesLarge(t *testing.T) {
	b := plain(4000, 262, false)
	one := codeRows(t, 63, map[string]int{"A": 262}, "A")
	for x := 0; x+63 <= 4000; x += 64 {
		page.Put(b, one, x, 0)
	}
	f := api.Form{Name: "a", W: 4000, H: 262, Dark: 1, Fields: []api.Field{codeField("c", box(0, 0, 4000, 262))}}
	l, e := forms.Read(f, b, tiny())
	failList(t, "too many codes", l, e, api.ErrLarge)
	f.Fields = append(f.Fields, textField("t", box(0, 0, 9, 4), 0))
	f.Fields[0].Box = box(0, 4, 4000, 258)
	l, e = forms.Read(f, b, tiny())
	failList(t, "a box that is too low, too", l, e, api.ErrFull)
}

// TestReadNoise has all kinds of fields, with pixels turned over, and moved pages.
func TestReadNoise(t *testing.T) {
	f := order()
	for i := range f.Fields {
		if f.Fields[i].Kind == api.FieldText {
			f.Fields[i].Most = 250
		}
	}
	var unsure int
	for seed := range 120 {
		l := manyValues()[seed%len(manyValues())]
		b, e := glyph.Noise(filled(t, f, l, tiny()), uint32(seed), seed/2)
		if e != api.OK {
			t.Fatal(e)
		}
		b = moved(b, number(seed, 1)%7-3, number(seed, 2)%7-3)
		want := readByPromise(t, f, b, tiny())
		got, e := forms.Read(f, b, tiny())
		wantValues(t, fmt.Sprint(seed), got, e, want)
		wantPlaces(t, fmt.Sprint(seed), f, b)
		for _, d := range f.Fields {
			if d.Kind >= api.FieldMark {
				l, e := forms.Mark(f, b, d.Name)
				wantList(t, d.Name, l, e, marksByPromise(f, placeByPromise(f, b), d))
			}
		}
		for _, v := range got {
			if v.Sure > 0 && v.Sure < 1000 {
				unsure++
			}
		}
	}
	if unsure < 20 {
		t.Error("all are sure", unsure)
	}
}

// TestReadFull has boxes that are lower than the letters of the font.
func TestReadFull(t *testing.T) {
	f := order()
	b := plain(130, 60, false)
	font := letters(6, 3)
	if l, e := forms.Read(f, b, font); e != api.OK || len(l) != 6 {
		t.Error(len(l), e)
	}
	for height := 7; height <= 9; height++ {
		l, e := forms.Read(f, b, letters(height, 3))
		failList(t, fmt.Sprint(height), l, e, api.ErrFull)
	}
	f.Fields[0].Box.H, f.Fields[4].Box.H = 9, 6
	l, e := forms.Read(f, b, letters(7, 3))
	failList(t, "the second text", l, e, api.ErrFull)
	f.Fields = slices.DeleteFunc(f.Fields, func(d api.Field) bool { return d.Kind == api.FieldText })
	f.Rules = nil
	if l, e := forms.Read(f, b, letters(64, 3)); e != api.OK || len(l) != 4 {
		t.Error(len(l), e)
	}
}

// TestReadErrors has several errors at once: the form's come first, then the font's, then the page's, then the others.
func TestReadErrors(t *testing.T) {
	pages := []struct {
		b    api.Bits
		want api.Errno
	}{
		{api.Bits{}, api.ErrRange}, {api.Bits{W: 1025, H: 1024}, api.ErrLarge}, {api.Bits{W: 130, H: 60, P: make([]bool, 7)}, api.ErrForm}, {plain(60, 130, false), api.ErrConflict},
	}
	for _, bad := range badFonts() {
		for _, p := range pages {
			l, e := forms.Read(order(), p.b, bad.font)
			failList(t, bad.font.Name, l, e, bad.want)
			l, e = forms.Read(order(), p.b, letters(64, 3))
			failList(t, bad.font.Name, l, e, p.want)
		}
		l, e := forms.Read(order(), plain(130, 60, false), bad.font)
		failList(t, bad.font.Name, l, e, bad.want)
		for _, flaw := range flawsInOrder() {
			f := order()
			flaw.spoil(&f)
			for _, p := range pages {
				l, e := forms.Read(f, p.b, bad.font)
				failList(t, flaw.what, l, e, flaw.want)
			}
		}
	}
}
