package forms

import (
	"strings"

	"flatbed/api"
	"flatbed/bar"
	"flatbed/glyph"
	"flatbed/page"
)

const (
	digits    = "0123456789"
	digitsEAN = 13
)

// Paper returns a form that is not filled.
func Paper(f api.Form) (api.Bits, api.Errno) {
	if e := Check(f); e != api.OK {
		return api.Bits{}, e
	}
	return paper(f)
}

// paper leaves the check of the form to its caller.
func paper(f api.Form) (api.Bits, api.Errno) {
	b, e := page.Blank(f.W, f.H)
	if e != api.OK {
		return api.Bits{}, e
	}
	for _, a := range f.Anchors {
		page.Put(b, a.Bits, a.X, a.Y)
	}
	return b, api.OK
}

// Fill returns a form with values, its texts in the letters of a font.
func Fill(f api.Form, values []api.Value, font api.Font) (api.Bits, api.Errno) {
	if e := Check(f); e != api.OK {
		return api.Bits{}, e
	}
	if e := glyph.Check(font); e != api.OK {
		return api.Bits{}, e
	}
	b, e := paper(f)
	if e != api.OK {
		return api.Bits{}, e
	}
	check := valueChecker(f)
	for _, v := range values {
		field, e := check(v)
		if e != api.OK {
			return api.Bits{}, e
		}
		if e := fillField(b, field, v, font); e != api.OK {
			return api.Bits{}, e
		}
	}
	return b, api.OK
}

// fillField writes a value into a page, in the boxes of its field. What is put there covers nothing, as no boxes overlap.
func fillField(b api.Bits, field api.Field, v api.Value, font api.Font) api.Errno {
	for _, i := range v.Marks {
		box := field.Marks[i]
		page.Put(b, full(box.W, box.H), box.X, box.Y)
	}
	if v.Text == "" {
		return api.OK
	}
	c, e := drawn(field, v.Text, font)
	if e != api.OK {
		return e
	}
	if c.W > field.Box.W || c.H > field.Box.H {
		return api.ErrFull
	}
	page.Put(b, c, field.Box.X, field.Box.Y)
	return api.OK
}

// full is a page all of ink.
func full(w, h int) api.Bits {
	return api.Bits{W: w, H: h, P: page.Fill(w, h, func(_, _ int) bool { return true })}
}

// drawn returns a text as it stands in a field. A code that is too wide is not drawn, as it could be too large for a page.
func drawn(field api.Field, text string, font api.Font) (api.Bits, api.Errno) {
	if field.Kind == api.FieldText {
		return glyph.Set(font, text)
	}
	modules, e := modulesOf(text)
	if e != api.OK {
		return api.Bits{}, e
	}
	if len(modules) > field.Box.W {
		return api.Bits{}, api.ErrFull
	}
	return bar.Draw(modules, 1, field.Box.H, 0)
}

func modulesOf(text string) (string, api.Errno) {
	if len(text) == digitsEAN && areDigits(text) {
		return bar.EAN(text)
	}
	return bar.Code39(text)
}

// areDigits reports whether a text has digits alone; an empty one has.
func areDigits(text string) bool { return strings.Trim(text, digits) == "" }

// valueChecker returns a function for the values of a form, of which no two belong to the same field; it returns the field
// of a value.
func valueChecker(f api.Form) func(v api.Value) (api.Field, api.Errno) {
	fields := map[string]api.Field{}
	for _, field := range f.Fields {
		fields[field.Name] = field
	}
	given := map[string]bool{}
	return func(v api.Value) (api.Field, api.Errno) {
		field, ok := fields[v.Field]
		if !ok {
			return api.Field{}, api.ErrNone
		}
		if given[v.Field] {
			return api.Field{}, api.ErrTwice
		}
		given[v.Field] = true
		return field, checkValue(field, v)
	}
}

func checkValue(field api.Field, v api.Value) api.Errno {
	if v.Sure != 0 || v.Text != "" && !hasText(field.Kind) || len(v.Marks) > 0 && !hasMarks(field.Kind) {
		return api.ErrForm
	}
	if !areRising(v.Marks) || field.Kind == api.FieldMark && len(v.Marks) > 1 {
		return api.ErrForm
	}
	for _, i := range v.Marks {
		if page.Outside(i, 0, len(field.Marks)-1) {
			return api.ErrRange
		}
	}
	return api.OK
}

func areRising(l []int) bool {
	for i := 1; i < len(l); i++ {
		if l[i-1] >= l[i] {
			return false
		}
	}
	return true
}
