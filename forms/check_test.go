package forms_test

import (
	"fmt"
	"slices"
	"strconv"
	"strings"
	"testing"

	"flatbed/api"
)

func TestCheckGood(t *testing.T) {
	for _, f := range goodForms() {
		wantCheck(t, f.Name, f, api.OK)
	}
	f := least()
	f.Fields = []api.Field{manyField("b", box(0, 0, 1, 1))}
	wantCheck(t, "a mark alone", f, api.OK)
	f = least()
	f.W, f.H, f.Anchors = 4000, 262, []api.Anchor{{Bits: plain(4000, 261, true), Y: 1}}
	wantCheck(t, "an anchor nearly as large as the page", f, api.OK)
	f.Anchors[0].Bits = plain(4000, 261, false)
	f.Anchors[0].Bits.P[4000*261-1] = true
	wantCheck(t, "an anchor with one pixel of ink", f, api.OK)
	f = least()
	f.W, f.H, f.Fields[0].Box = 1024, 1024, box(0, 0, 1024, 1024)
	wantCheck(t, "a field that is as large as the page", f, api.OK)
	// A line of boxes that touch.
	f = api.Form{Name: "a", W: 9, H: 1, Dark: 1, Anchors: []api.Anchor{anchor(4, 0, ".#")}}
	f.Fields = []api.Field{codeField("b", box(6, 0, 3, 1)), textField("c", box(0, 0, 2, 1), 0), manyField("d", box(3, 0, 1, 1), box(2, 0, 1, 1))}
	wantCheck(t, "boxes that touch", f, api.OK)
}

// A flaw is something that is wrong with a form.
type flaw struct {
	what  string
	want  api.Errno
	spoil func(f *api.Form)
}

// flawsInOrder are flaws of the form order, in the order of the promise.
func flawsInOrder() []flaw {
	number := func(spoil func(d *api.Field)) func(f *api.Form) { return func(f *api.Form) { spoil(&f.Fields[1]) } }
	paid := func(spoil func(d *api.Field)) func(f *api.Form) { return func(f *api.Form) { spoil(&f.Fields[2]) } }
	first := func(spoil func(a *api.Anchor)) func(f *api.Form) { return func(f *api.Form) { spoil(&f.Anchors[0]) } }
	return []flaw{
		{"name", api.ErrName, func(f *api.Form) { f.Name = "Order" }},
		{"size", api.ErrRange, func(f *api.Form) { f.H = 4001 }},
		{"pixels", api.ErrLarge, func(f *api.Form) { f.W, f.H = 1025, 1024 }},
		{"reach", api.ErrRange, func(f *api.Form) { f.Reach = 41 }},
		{"anchors", api.ErrLarge, func(f *api.Form) { f.Anchors = make([]api.Anchor, 11) }},
		{"anchor size", api.ErrRange, first(func(a *api.Anchor) { a.Bits.W = 0 })},
		{"anchor pixels", api.ErrForm, first(func(a *api.Anchor) { a.Bits.P = a.Bits.P[:8] })},
		{"anchor ink", api.ErrNone, first(func(a *api.Anchor) { a.Bits = plain(3, 3, false) })},
		{"anchor place", api.ErrPlace, first(func(a *api.Anchor) { a.X = 128 })},
		{"second anchor ink", api.ErrNone, func(f *api.Form) { f.Anchors[1].Bits = plain(1, 1, false) }},
		{"no fields", api.ErrEmpty, func(f *api.Form) { f.Fields = nil }},
		{"fields", api.ErrLarge, func(f *api.Form) { f.Fields = append(make([]api.Field, 45), f.Fields...) }},
		{"field name", api.ErrName, number(func(d *api.Field) { d.Name = "1" })},
		{"field twice", api.ErrTwice, number(func(d *api.Field) { d.Name = "number" })},
		{"field kind", api.ErrKind, number(func(d *api.Field) { d.Kind = 5 })},
		{"field box", api.ErrPlace, number(func(d *api.Field) { d.Box.W = 111 })},
		{"code with marks", api.ErrForm, number(func(d *api.Field) { d.Marks = []api.Box{box(0, 0, 1, 1)} })},
		{"most", api.ErrRange, number(func(d *api.Field) { d.Most = -1 })},
		{"code with most", api.ErrForm, number(func(d *api.Field) { d.Most = 1 })},
		{"second field name", api.ErrName, paid(func(d *api.Field) { d.Name = "" })},
		{"second field kind", api.ErrKind, paid(func(d *api.Field) { d.Kind = 0 })},
		{"marks with box", api.ErrForm, paid(func(d *api.Field) { d.Box.X = 1 })},
		{"no marks", api.ErrForm, paid(func(d *api.Field) { d.Marks = nil })},
		{"many marks", api.ErrLarge, paid(func(d *api.Field) { d.Marks = append(make([]api.Box, 19), d.Marks...) })},
		{"mark place", api.ErrPlace, paid(func(d *api.Field) { d.Marks[1].Y = -1 })},
		{"marks with most too large", api.ErrRange, paid(func(d *api.Field) { d.Most = 1001 })},
		{"marks with most", api.ErrForm, paid(func(d *api.Field) { d.Most = 1000 })},
		{"overlap", api.ErrConflict, func(f *api.Form) { f.Fields[4].Box = box(119, 50, 9, 9) }},
		{"rules", api.ErrLarge, func(f *api.Form) { f.Rules = append(f.Rules, make([]api.Rule, 45)...) }},
		{"rule kind", api.ErrKind, func(f *api.Form) { f.Rules[3].Kind = 7 }},
		{"rule field", api.ErrNone, func(f *api.Form) { f.Rules[3].Field = "none" }},
		{"rule other", api.ErrNone, func(f *api.Form) { f.Rules[3].Other = "" }},
		{"rule field kind", api.ErrKind, func(f *api.Form) { f.Rules[3].Field = "paid" }},
		{"rule text", api.ErrForm, func(f *api.Form) { f.Rules[3].Text = " " }},
		{"second rule kind", api.ErrKind, func(f *api.Form) { f.Rules[4].Kind = -1 }},
	}
}

// TestCheckOrder has two flaws at once: the first one decides.
func TestCheckOrder(t *testing.T) {
	flaws := flawsInOrder()
	for i, first := range flaws {
		f := order()
		first.spoil(&f)
		wantCheck(t, first.what, f, first.want)
		for _, second := range flaws[i+1:] {
			f := order()
			second.spoil(&f)
			first.spoil(&f)
			wantCheck(t, first.what+" ahead of "+second.what, f, first.want)
		}
	}
}

func TestCheckNames(t *testing.T) {
	for _, name := range append(wrongNames(), "needed me", "form\n") {
		f := order()
		f.Name = name
		wantCheck(t, name, f, api.ErrName)
		f = order()
		f.Fields[5].Name = name
		wantCheck(t, name, f, api.ErrName)
	}
	for _, name := range []string{"z", "z9-", strings.Repeat("a", 40), "form", "needed"} {
		f := order()
		f.Name, f.Fields[5].Name = name, name
		wantCheck(t, name, f, api.OK)
	}
	f := order()
	f.Fields[5].Name = "ways"
	wantCheck(t, "ways", f, api.ErrTwice)
}

func TestCheckNumbers(t *testing.T) {
	check := func(what string, n int, want api.Errno, set func(f *api.Form, n int)) {
		t.Helper()
		f := order()
		set(&f, n)
		wantCheck(t, what+" "+strconv.Itoa(n), f, want)
	}
	for what, c := range map[string]struct {
		least, most int
		want        api.Errno
		set         func(f *api.Form, n int)
	}{
		"reach":      {0, 40, api.ErrRange, func(f *api.Form, n int) { f.Reach = n }},
		"dark":       {1, 1000, api.ErrRange, func(f *api.Form, n int) { f.Dark = n }},
		"most":       {0, 1000, api.ErrRange, func(f *api.Form, n int) { f.Fields[0].Most = n }},
		"field kind": {1, 4, api.ErrKind, func(f *api.Form, n int) { *f = least(); f.Fields[0].Kind = n; fitKind(f) }},
		"rule kind":  {1, 2, api.ErrKind, func(f *api.Form, n int) { f.Rules = []api.Rule{rule(n, "sku", "", "")} }},
		"page width": {130, 4000, api.ErrRange, func(f *api.Form, n int) {
			if n < 130 {
				n = min(n, 0)
			}
			f.W = n
		}},
	} {
		check(what, c.least, api.OK, c.set)
		check(what, c.most, api.OK, c.set)
		for _, n := range wrongNumbers(c.least, c.most) {
			if what == "rule kind" && n == 3 {
				continue
			}
			check(what, n, c.want, c.set)
		}
	}
	for _, n := range wrongNumbers(0, 0) {
		want := api.ErrForm
		if n < 0 || n > 1000 {
			want = api.ErrRange
		}
		for _, i := range []int{1, 2, 3, 5} {
			check("most of field "+strconv.Itoa(i), n, want, func(f *api.Form, n int) { f.Fields[i].Most = n })
		}
	}
}

// fitKind gives a field with marks one in the place of its box.
func fitKind(f *api.Form) {
	if d := &f.Fields[0]; d.Kind == 3 || d.Kind == 4 {
		d.Box, d.Marks = api.Box{}, []api.Box{d.Box}
	}
}

func TestCheckCounts(t *testing.T) {
	spread := func(anchors, fields, marks, rules int) api.Form {
		f := api.Form{Name: "a", W: 1024, H: 1024, Dark: 1}
		for i := range anchors {
			f.Anchors = append(f.Anchors, anchor(2*i, 0, "#"))
		}
		for i := range fields {
			f.Fields = append(f.Fields, manyField("f"+strconv.Itoa(i)))
			for j := range marks {
				f.Fields[i].Marks = append(f.Fields[i].Marks, box(j, 1+i, 1, 1))
			}
		}
		for range rules {
			f.Rules = append(f.Rules, rule(api.RuleNeeded, "f0", "", ""))
		}
		return f
	}
	for _, c := range []struct {
		anchors, fields, marks, rules int
		want                          api.Errno
	}{
		{0, 1, 1, 0, api.OK}, {10, 50, 20, 50, api.OK},
		{11, 1, 1, 0, api.ErrLarge}, {0, 0, 0, 0, api.ErrEmpty}, {0, 51, 1, 0, api.ErrLarge}, {0, 1, 0, 0, api.ErrForm},
		{0, 1, 21, 0, api.ErrLarge}, {0, 1, 1, 51, api.ErrLarge}, {300, 300, 300, 300, api.ErrLarge}, {0, 256, 1, 0, api.ErrLarge},
		{10, 0, 0, 50, api.ErrEmpty}, {0, 50, 276, 0, api.ErrLarge},
	} {
		wantCheck(t, fmt.Sprint(c), spread(c.anchors, c.fields, c.marks, c.rules), c.want)
	}
}

func TestCheckPlaces(t *testing.T) {
	for _, b := range wrongBoxes(130, 60) {
		for i, d := range order().Fields {
			f := order()
			what := fmt.Sprint(i, b)
			if d.Kind <= 2 {
				f.Fields[i].Box = b
				wantCheck(t, what, f, api.ErrPlace)
				continue
			}
			for j := range d.Marks {
				f = order()
				f.Fields[i].Marks[j] = b
				wantCheck(t, what, f, api.ErrPlace)
			}
			if b != (api.Box{}) {
				f = order()
				f.Fields[i].Box = b
				wantCheck(t, what, f, api.ErrForm)
			}
		}
	}
	for _, at := range [][2]int{{-1, 0}, {0, -1}, {128, 0}, {0, 58}, {130, 60}, {mostInt, 0}, {0, mostInt}, {leastInt, leastInt}, {mostInt - 2, mostInt - 2}, {1 << 32, 0}} {
		f := order()
		f.Anchors[0].X, f.Anchors[0].Y = at[0], at[1]
		wantCheck(t, fmt.Sprint(at), f, api.ErrPlace)
	}
	f := order()
	f.Anchors[0].X, f.Anchors[0].Y = 127, 57
	f.Anchors[1].X, f.Anchors[1].Y = 0, 0
	wantCheck(t, "corners", f, api.OK)
	f.Anchors[1].Bits = plain(131, 1, true)
	wantCheck(t, "a wide anchor", f, api.ErrPlace)
}

func TestCheckAnchorPages(t *testing.T) {
	for size, want := range map[[2]int]api.Errno{
		{0, 1}: api.ErrRange, {1, 0}: api.ErrRange, {-1, -3}: api.ErrRange, {4001, 1}: api.ErrRange, {mostInt, mostInt}: api.ErrRange,
		{leastInt, leastInt}: api.ErrRange, {1025, 1024}: api.ErrLarge, {4000, 4000}: api.ErrLarge, {2, 2}: api.ErrForm, {1, 2}: api.ErrForm,
	} {
		f := order()
		f.Anchors[1].Bits = api.Bits{W: size[0], H: size[1], P: []bool{true, true, true}}
		wantCheck(t, fmt.Sprint(size), f, want)
	}
}

// TestCheckOverlap moves each box of a form over each other one, so that they have one pixel in common, and beside it.
func TestCheckOverlap(t *testing.T) {
	whole := order()
	whole.Rules = nil
	boxes := boxesIn(&whole)
	for i := range boxes {
		for j := range boxes {
			if i == j {
				continue
			}
			f := api.Form{Name: "a", W: 300, H: 300, Dark: 1, Fields: []api.Field{codeField("z", box(299, 299, 1, 1))}}
			a, b := *boxes[i], *boxes[j]
			a.X, a.Y = 100, 100
			for _, c := range []struct {
				x, y int
				want api.Errno
			}{
				{a.X, a.Y, api.ErrConflict}, {a.X + a.W - 1, a.Y + a.H - 1, api.ErrConflict}, {a.X - b.W + 1, a.Y - b.H + 1, api.ErrConflict},
				{a.X + a.W - 1, a.Y - b.H + 1, api.ErrConflict}, {a.X - b.W + 1, a.Y + a.H - 1, api.ErrConflict},
				{a.X + a.W, a.Y, api.OK}, {a.X, a.Y + a.H, api.OK}, {a.X - b.W, a.Y, api.OK}, {a.X, a.Y - b.H, api.OK},
				{a.X + a.W, a.Y + a.H - 1, api.OK}, {a.X + a.W - 1, a.Y + a.H, api.OK},
			} {
				b.X, b.Y = c.x, c.y
				f.Fields = append(f.Fields[:1], codeField("a", a), textField("b", b, 0))
				wantCheck(t, fmt.Sprint("two fields", a, b), f, c.want)
				f.Fields = append(f.Fields[:1], manyField("a", a, b))
				wantCheck(t, fmt.Sprint("two marks of a field", a, b), f, c.want)
				f.Fields = append(f.Fields[:1], markField("a", a), manyField("b", b))
				wantCheck(t, fmt.Sprint("marks of two fields", a, b), f, c.want)
				f.Fields = append(f.Fields[:1], markField("a", a), textField("b", b, 0))
				wantCheck(t, fmt.Sprint("a mark and a field", a, b), f, c.want)
				f.Anchors = []api.Anchor{{Bits: plain(a.W, a.H, true), X: a.X, Y: a.Y}}
				f.Fields = append(f.Fields[:1], textField("b", b, 0))
				wantCheck(t, fmt.Sprint("an anchor and a field", a, b), f, c.want)
				f.Fields = append(f.Fields[:1], markField("b", b))
				wantCheck(t, fmt.Sprint("an anchor and a mark", a, b), f, c.want)
				f.Fields = f.Fields[:1]
				f.Anchors = append(f.Anchors, api.Anchor{Bits: plain(b.W, b.H, true), X: b.X, Y: b.Y})
				wantCheck(t, fmt.Sprint("two anchors", a, b), f, c.want)
				f.Anchors = nil
			}
		}
	}
}

func boxesIn(f *api.Form) []*api.Box {
	var l []*api.Box
	for i := range f.Fields {
		if f.Fields[i].Kind <= 2 {
			l = append(l, &f.Fields[i].Box)
		}
		for j := range f.Fields[i].Marks {
			l = append(l, &f.Fields[i].Marks[j])
		}
	}
	return l
}

// TestCheckMixedBoxes counts the boxes of each pixel.
func TestCheckMixedBoxes(t *testing.T) {
	var apart, over int
	for seed := range 3000 {
		f := api.Form{Name: "a", W: 16, H: 16, Dark: 1}
		covered := make([]int, 16*16)
		mixed := func(i int) api.Box {
			b := box(number(seed, 4*i)%16, number(seed, 4*i+1)%16, 1+number(seed, 4*i+2)%5, 1+number(seed, 4*i+3)%5)
			b.W, b.H = min(b.W, 16-b.X), min(b.H, 16-b.Y)
			for k := range b.W * b.H {
				covered[(b.Y+k/b.W)*16+b.X+k%b.W]++
			}
			return b
		}
		f.Fields = []api.Field{textField("a", mixed(0), 0), manyField("b", mixed(1), mixed(2)), markField("c", mixed(3))}
		a := mixed(4)
		f.Anchors = []api.Anchor{{Bits: plain(a.W, a.H, true), X: a.X, Y: a.Y}}
		want := api.OK
		apart++
		if slices.Max(covered) > 1 {
			want = api.ErrConflict
			over++
		}
		wantCheck(t, fmt.Sprint(seed), f, want)
	}
	if over < 500 || apart-over < 500 {
		t.Error("not enough of both", apart, over)
	}
}
