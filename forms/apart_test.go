package forms_test

import (
	"fmt"
	"slices"
	"testing"

	"flatbed/api"
	"flatbed/forms"
)

// spare fills the unused capacity of a list, so that what is written there is seen.
func spare[T any](l []T, with T) []T { return append(slices.Clone(l), with, with, with)[:len(l)] }

func whole[T any](l []T) []T { return slices.Clone(l[:cap(l)]) }

// spoil overwrites a result, and its unused capacity.
func spoil[T any](l []T, with T) {
	l = l[:cap(l)]
	for i := range l {
		l[i] = with
	}
}

// A heap has one of each argument that functions take.
type heap struct {
	f      api.Form
	b      api.Bits
	values []api.Value
	font   api.Font
	forms  []api.Form
}

func spareBits(b api.Bits) api.Bits { return api.Bits{W: b.W, H: b.H, P: spare(b.P, true)} }

func spareForm(f api.Form) api.Form {
	f.Anchors, f.Fields, f.Rules = spare(f.Anchors, api.Anchor{X: 1}), spare(f.Fields, api.Field{Name: "x"}), spare(f.Rules, api.Rule{Kind: 9})
	for i := range f.Anchors {
		f.Anchors[i].Bits = spareBits(f.Anchors[i].Bits)
	}
	for i := range f.Fields {
		f.Fields[i].Marks = spare(f.Fields[i].Marks, box(1, 2, 3, 4))
	}
	return f
}

func someHeap(t *testing.T) heap {
	h := heap{f: spareForm(order()), values: spare(manyValues()[0], text("x", "y")), font: tiny()}
	for i := range h.values {
		h.values[i].Marks = spare(h.values[i].Marks, 77)
	}
	h.b = spareBits(moved(filled(t, order(), manyValues()[0], tiny()), 2, -3))
	h.font.Letters = spare(h.font.Letters, letter("q", "#"))
	for i := range h.font.Letters {
		h.font.Letters[i].Bits = spareBits(h.font.Letters[i].Bits)
	}
	h.forms = spare([]api.Form{h.f, least(), h.f}, least())
	return h
}

// all is what an argument has, with the unused capacity.
func (h heap) all() string {
	var l []any
	for _, f := range append(whole(h.forms), h.f) {
		for _, a := range whole(f.Anchors) {
			l = append(l, a.X, a.Y, a.Bits.W, a.Bits.H, whole(a.Bits.P))
		}
		for _, d := range whole(f.Fields) {
			l = append(l, d, whole(d.Marks))
		}
		l = append(l, f.Name, whole(f.Rules))
	}
	for _, v := range whole(h.values) {
		l = append(l, v, whole(v.Marks))
	}
	for _, c := range whole(h.font.Letters) {
		l = append(l, c.Text, whole(c.Bits.P))
	}
	return fmt.Sprint(append(l, whole(h.b.P))...)
}

// results are what calls return, as texts; they are overwritten once they are kept.
func results(h heap) []string {
	var l []string
	keep := func(what ...any) { l = append(l, fmt.Sprint(what...)) }
	bits := func(b api.Bits, e api.Errno) {
		keep(b, e)
		spoil(b.P, true)
	}
	values := func(got []api.Value, e api.Errno) {
		keep(got, e)
		for _, v := range got {
			spoil(v.Marks, 99)
		}
		spoil(got, api.Value{Field: "spoilt"})
	}
	keep(forms.Check(h.f))
	found, e := forms.Anchors(h.f, h.b)
	keep(found, e)
	spoil(found, api.Found{DX: 99})
	keep(forms.Offset(h.f, h.b))
	bits(forms.Place(h.f, h.b))
	bits(forms.Paper(h.f))
	bits(forms.Fill(h.f, h.values, h.font))
	bits(forms.Fill(h.f, nil, h.font))
	for _, name := range []string{"paid", "ways"} {
		numbers, e := forms.Mark(h.f, h.b, name)
		keep(numbers, e)
		spoil(numbers, 99)
	}
	values(forms.Read(h.f, h.b, h.font))
	broken, e := forms.Rules(h.f, h.values[:1])
	keep(broken, e)
	spoil(broken, api.Broken{Rule: 99})
	keep(forms.Best(h.forms, h.b))
	text, e := forms.Print(h.f)
	keep(text, e)
	f, at, e := forms.Parse(text)
	keep(f, at, e)
	for i := range f.Anchors {
		spoil(f.Anchors[i].Bits.P, true)
	}
	for i := range f.Fields {
		spoil(f.Fields[i].Marks, box(9, 9, 9, 9))
	}
	spoil(f.Fields, api.Field{Name: "spoilt"})
	spoil(f.Rules, api.Rule{Kind: 99})
	return l
}

// TestArgumentsStay overwrites all results, and calls again: no argument changes, and no later result.
func TestArgumentsStay(t *testing.T) {
	h := someHeap(t)
	old, first := h.all(), results(h)
	for range 3 {
		if !slices.Equal(results(h), first) {
			t.Error("a result comes out otherwise the next time")
		}
	}
	if h.all() != old {
		t.Error("an argument was changed")
	}
}

// TestResultsApart overwrites one of two results: the other one stays.
func TestResultsApart(t *testing.T) {
	h := someHeap(t)
	a, _ := forms.Read(h.f, h.b, h.font)
	b, _ := forms.Read(h.f, h.b, h.font)
	for i := range a {
		spoil(a[i].Marks, 99)
	}
	want := valuesOf(h.f, h.values)
	wantValues(t, "Read", b, api.OK, want)
	for i := range b[2:4] {
		b[2+i].Marks = append(b[2+i].Marks, 99)
	}
	if slices.Contains(b[3].Marks[:3], 99) || slices.Contains(b[2].Marks[:1], 99) {
		t.Error("two lists of a result share memory")
	}
	f, _, _ := forms.Parse(orderText)
	g, _, _ := forms.Parse(orderText)
	for i := range f.Fields {
		f.Fields[i].Marks = append(f.Fields[i].Marks, box(9, 9, 9, 9))
		spoil(f.Fields[i].Marks, box(9, 9, 9, 9))
	}
	for i := range f.Anchors {
		f.Anchors[i].Bits.P = append(f.Anchors[i].Bits.P, true)
		spoil(f.Anchors[i].Bits.P, true)
	}
	wantForm(t, "Parse", g, api.OK, order())
}

// TestErrorsLeaveNothing has calls with errors between others.
func TestErrorsLeaveNothing(t *testing.T) {
	h := someHeap(t)
	old, first := h.all(), results(h)
	for _, bad := range append(badValues(), badTexts()...) {
		l := append(slices.Clone(h.values), bad.v)
		forms.Fill(h.f, l, h.font)
		forms.Rules(h.f, l)
	}
	for _, flaw := range flawsInOrder() {
		f := order()
		flaw.spoil(&f)
		forms.Read(f, h.b, h.font)
		forms.Best([]api.Form{h.f, f}, h.b)
		forms.Print(f)
	}
	forms.Parse(orderText + "nonsense\n")
	forms.Mark(h.f, h.b, "none")
	forms.Read(h.f, h.b, letters(64, 1))
	if !slices.Equal(results(h), first) || h.all() != old {
		t.Error("an error has left something")
	}
}
