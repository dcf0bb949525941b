package forms

import (
	"cmp"
	"slices"

	"flatbed/api"
	"flatbed/bar"
	"flatbed/glyph"
	"flatbed/page"
)

const space = " "

// Mark returns which marks of a field are marked.
func Mark(f api.Form, b api.Bits, field string) ([]int, api.Errno) {
	if e := checkPage(f, b); e != api.OK {
		return nil, e
	}
	at := slices.IndexFunc(f.Fields, func(other api.Field) bool { return other.Name == field })
	if at < 0 {
		return nil, api.ErrNone
	}
	if !hasMarks(f.Fields[at].Kind) {
		return nil, api.ErrKind
	}
	b, e := placed(f, b)
	if e != api.OK {
		return nil, e
	}
	return marked(b, f.Fields[at].Marks, f.Dark)
}

// marked returns the numbers of the boxes in which at least dark thousandths of all pixels are ink.
func marked(b api.Bits, marks []api.Box, dark int) ([]int, api.Errno) {
	var l []int
	for i, box := range marks {
		ink, e := page.Ink(b, box)
		if e != api.OK {
			return nil, e
		}
		if ink*whole >= dark*box.W*box.H {
			l = append(l, i)
		}
	}
	return l, api.OK
}

// Read returns the values of all fields, the texts by the letters of a font.
func Read(f api.Form, b api.Bits, font api.Font) ([]api.Value, api.Errno) {
	if e := checkRead(f, b, font); e != api.OK {
		return nil, e
	}
	b, e := placed(f, b)
	if e != api.OK {
		return nil, e
	}
	read := readers(b, font, f.Dark)
	var l []api.Value
	for _, field := range f.Fields {
		v, e := read[field.Kind](field)
		if e != api.OK {
			return nil, e
		}
		v.Field = field.Name
		l = append(l, v)
	}
	return l, api.OK
}

func checkRead(f api.Form, b api.Bits, font api.Font) api.Errno {
	if e := Check(f); e != api.OK {
		return e
	}
	if e := glyph.Check(font); e != api.OK {
		return e
	}
	if e := checkSize(f, b); e != api.OK {
		return e
	}
	isTooLow := func(field api.Field) bool { return field.Kind == api.FieldText && field.Box.H < font.Height }
	if slices.ContainsFunc(f.Fields, isTooLow) {
		return api.ErrFull
	}
	return api.OK
}

// readers returns for each kind of field the function that reads one of a page. The name of the field it leaves out.
func readers(b api.Bits, font api.Font, dark int) map[int]func(field api.Field) (api.Value, api.Errno) {
	text := func(field api.Field) (api.Value, api.Errno) { return readText(b, field, font) }
	code := func(field api.Field) (api.Value, api.Errno) { return readCode(b, field.Box) }
	marks := func(field api.Field) (api.Value, api.Errno) { return readMarks(b, field, dark) }
	return map[int]func(field api.Field) (api.Value, api.Errno){
		api.FieldText: text,
		api.FieldCode: code,
		api.FieldMark: marks,
		api.FieldMany: marks,
	}
}

func readText(b api.Bits, field api.Field, font api.Font) (api.Value, api.Errno) {
	box := field.Box
	box.H = font.Height
	line, e := page.Cut(b, box)
	if e != api.OK {
		return api.Value{}, e
	}
	seen, e := glyph.Read(font, line, field.Most)
	if e != api.OK {
		return api.Value{}, e
	}
	return api.Value{Text: glyph.Text(seen), Sure: sureOf(seen)}, api.OK
}

// sureOf tells how sure it is what was seen, by how many pixels of the pieces differ. Without pieces it is sure that there
// is nothing.
func sureOf(seen []api.Seen) int {
	differ, pixels := 0, 0
	for _, s := range seen {
		if s.Text == space {
			continue
		}
		if s.Distance < 0 {
			return 0
		}
		differ += s.Distance
		pixels += s.Box.W * s.Box.H
	}
	if pixels == 0 {
		return whole
	}
	return max(whole-whole*differ/pixels, 0)
}

// readCode takes the code that was read in the most rows. If there is ink, but no code, it is not sure at all.
func readCode(b api.Bits, box api.Box) (api.Value, api.Errno) {
	c, e := page.Cut(b, box)
	if e != api.OK {
		return api.Value{}, e
	}
	codes, e := bar.Find(c, 1)
	if e != api.OK {
		return api.Value{}, e
	}
	if len(codes) > 0 {
		best := slices.MaxFunc(codes, func(a, b api.Code) int { return cmp.Compare(a.Count, b.Count) })
		return api.Value{Text: best.Text, Sure: whole * best.Count / box.H}, api.OK
	}
	if slices.Contains(c.P, true) {
		return api.Value{}, api.OK
	}
	return api.Value{Sure: whole}, api.OK
}

// readMarks is not sure if several marks are marked, of which only one can be.
func readMarks(b api.Bits, field api.Field, dark int) (api.Value, api.Errno) {
	l, e := marked(b, field.Marks, dark)
	if e != api.OK {
		return api.Value{}, e
	}
	if field.Kind == api.FieldMark && len(l) > 1 {
		return api.Value{Marks: l}, api.OK
	}
	return api.Value{Marks: l, Sure: whole}, api.OK
}
