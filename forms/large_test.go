package forms_test

import (
	"fmt"
	"slices"
	"strings"
	"testing"

	"flatbed/api"
	"flatbed/bar"
	"flatbed/forms"
)

// The forms and pages here are as large as they can be.

// TestLargeAnchors has anchors that are large, or very wide or high, within the greatest reach.
func TestLargeAnchors(t *testing.T) {
	for _, size := range [][4]int{{1024, 1024, 900, 900}, {4000, 262, 3900, 150}, {262, 4000, 150, 3900}, {1024, 1024, 1, 940}, {1024, 1024, 940, 1}} {
		f := api.Form{Name: "a", W: size[0], H: size[1], Reach: 40, Dark: 1}
		f.Anchors = []api.Anchor{{Bits: mixedBits(1, size[2], size[3], 128), X: 42, Y: 41}}
		f.Anchors[0].Bits.P[0] = true
		f.Fields = []api.Field{codeField("b", box(0, 0, 1, 1))}
		b, e := forms.Paper(f)
		if e != api.OK {
			t.Fatal(e)
		}
		for _, d := range []api.Point{{X: 40, Y: 40}, {X: -40, Y: -40}, {X: 17, Y: -31}} {
			page := moved(b, d.X, d.Y)
			for i := 0; i < len(page.P); i += 4001 {
				page.P[i] = !page.P[i]
			}
			n := 0
			for i := 0; i < len(page.P); i += 4001 {
				x, y := i%b.W-42-d.X, i/b.W-41-d.Y
				if x >= 0 && y >= 0 && x < size[2] && y < size[3] {
					n++
				}
			}
			l, e := forms.Anchors(f, page)
			wantList(t, fmt.Sprint(size, d), l, e, []api.Found{{DX: d.X, DY: d.Y, Distance: n}})
			k, sum, e := forms.Best([]api.Form{f}, page)
			if k != 0 || sum != 1000*n/(size[2]*size[3]) || e != api.OK {
				t.Error(size, d, k, sum, e)
			}
		}
	}
}

// TestLargeForm has as much of all as there can be, moved by the greatest reach.
func TestLargeForm(t *testing.T) {
	f := api.Form{Name: "large", W: 1024, H: 1024, Reach: 40, Dark: 1000}
	for i := range 10 {
		a := api.Anchor{Bits: mixedBits(i, 60, 60, 128), X: 60 + 90*i, Y: 60}
		a.Bits.P[0] = true
		f.Anchors = append(f.Anchors, a)
	}
	var l []api.Value
	for i := range 50 {
		name := fmt.Sprint("f", i)
		at := box(50, 170+16*i, 900, 12)
		switch i % 4 {
		case 0:
			f.Fields = append(f.Fields, textField(name, at, 0))
			l = append(l, text(name, strings.Repeat("0 12x ", 1+i/5)+"1"))
		case 1:
			f.Fields = append(f.Fields, codeField(name, at))
			l = append(l, text(name, fmt.Sprint("CODE-", i)))
		default:
			d := manyField(name)
			d.Kind -= i % 2
			v := api.Value{Field: name, Marks: []int{i % 20}}
			for k := range 20 {
				d.Marks = append(d.Marks, box(50+44*k, at.Y, 40, 12))
				if i%2 == 0 && k > i%20 && k%3 == 1 {
					v.Marks = append(v.Marks, k)
				}
			}
			f.Fields = append(f.Fields, d)
			l = append(l, v)
		}
		f.Fields[i].Needed = true
		f.Rules = append(f.Rules, rule(api.RuleNeeded, name, "", ""))
	}
	b := filled(t, f, l, tiny())
	for _, d := range []api.Point{{}, {X: 40, Y: -40}, {X: -40, Y: 40}} {
		got, e := forms.Read(f, moved(b, d.X, d.Y), tiny())
		wantValues(t, fmt.Sprint(d), got, e, valuesOf(f, l))
		broken, e := forms.Rules(f, got)
		wantList(t, fmt.Sprint(d), broken, e, nil)
	}
	text, e := forms.Print(f)
	if e != api.OK {
		t.Error(e)
	}
	g, _, e := forms.Parse(text)
	wantForm(t, "large", g, e, f)
	broken, e := forms.Rules(f, nil)
	if e != api.OK || len(broken) != 100 {
		t.Error(len(broken), e)
	}
}

// TestLargeFields has a text, and a code, as long as they can be.
func TestLargeFields(t *testing.T) {
	f := api.Form{Name: "a", W: 4000, H: 262, Dark: 1, Fields: []api.Field{textField("t", box(0, 0, 4000, 64), 0), codeField("c", box(3313, 64, 687, 198))}}
	font := letters(64, 18)
	font.Letters = append(font.Letters, api.Letter{Text: "o", Bits: mixedBits(5, 19, 64, 128)})
	code := strings.Repeat("W-0.%", 8)
	l := []api.Value{text("t", strings.Repeat("oi", 100)), text("c", code)}
	got, e := forms.Read(f, filled(t, f, l, font), font)
	wantValues(t, "long", got, e, valuesOf(f, l))
	if _, e := bar.Code39(code); e != api.OK || len(code) != 40 {
		t.Error(e)
	}
}

func TestLargeBest(t *testing.T) {
	f := order()
	f.Reach = 40
	l := slices.Repeat([]api.Form{f}, 100)
	for i := range l {
		l[i].Anchors = slices.Clone(f.Anchors)
		l[i].Anchors[1].Bits = mixedBits(i, 9, 9, 128)
		l[i].Anchors[1].Bits.P[4] = true
	}
	b, _ := forms.Paper(l[77])
	if n, sum, e := forms.Best(l, b); n != 77 || sum != 0 || e != api.OK {
		t.Error(n, sum, e)
	}
}
