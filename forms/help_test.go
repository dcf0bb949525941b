package forms_test

import (
	"fmt"
	"slices"
	"strconv"
	"strings"
	"testing"

	"flatbed/api"
	"flatbed/forms"
)

const (
	mostInt  = 1<<63 - 1
	leastInt = -1 << 63
)

func draw(rows ...string) api.Bits {
	b := api.Bits{W: len(rows[0]), H: len(rows)}
	for _, c := range strings.Join(rows, "") {
		b.P = append(b.P, c == '#')
	}
	return b
}

func plain(w, h int, ink bool) api.Bits {
	return api.Bits{W: w, H: h, P: slices.Repeat([]bool{ink}, w*h)}
}

// number is one from 0 to 255 that hangs on its arguments only, and looks alike nowhere.
func number(seed, i int) int {
	x := uint32(i)*2654435761 + uint32(seed)*40503
	return int((x ^ x>>15) * 2246822519 >> 24)
}

// mixedBits has ink in about dark of 256 pixels.
func mixedBits(seed, w, h, dark int) api.Bits {
	b := plain(w, h, false)
	for i := range b.P {
		b.P[i] = number(seed, i) < dark
	}
	return b
}

// at is without ink outside of the page.
func at(b api.Bits, x, y int) bool { return x >= 0 && x < b.W && y >= 0 && y < b.H && b.P[y*b.W+x] }

// moved is a page moved by (dx, dy); what leaves it is lost.
func moved(b api.Bits, dx, dy int) api.Bits {
	c := plain(b.W, b.H, false)
	for i := range c.P {
		c.P[i] = at(b, i%b.W-dx, i/b.W-dy)
	}
	return c
}

func letter(text string, rows ...string) api.Letter {
	return api.Letter{Text: text, Bits: draw(rows...)}
}

// tiny is a font of 5 rows whose letters are told apart.
func tiny() api.Font {
	return api.Font{Name: "tiny", Height: 5, Gap: 1, Space: 3, Letters: []api.Letter{
		letter("1", "#", "#", "#", "#", "#"),
		letter("2", "####", "...#", "####", "#...", "####"),
		letter("0", "#####", "#...#", "#...#", "#...#", "#####"),
		letter("x", "#.....#", ".#...#.", "..#.#..", ".#.#.#.", "#..#..#"),
		letter("10", "#########", "#########", "#########", "#########", "#########"),
	}}
}

func letters(height, width int) api.Font {
	return api.Font{Name: "block", Height: height, Gap: 1, Space: 2, Letters: []api.Letter{{Text: "i", Bits: plain(width, height, true)}}}
}

func box(x, y, w, h int) api.Box { return api.Box{X: x, Y: y, W: w, H: h} }

func anchor(x, y int, rows ...string) api.Anchor { return api.Anchor{Bits: draw(rows...), X: x, Y: y} }

func textField(name string, b api.Box, most int) api.Field {
	return api.Field{Name: name, Kind: api.FieldText, Box: b, Most: most}
}

func codeField(name string, b api.Box) api.Field {
	return api.Field{Name: name, Kind: api.FieldCode, Box: b}
}

func markField(name string, marks ...api.Box) api.Field {
	return api.Field{Name: name, Kind: api.FieldMark, Marks: marks}
}

func manyField(name string, marks ...api.Box) api.Field {
	return api.Field{Name: name, Kind: api.FieldMany, Marks: marks}
}

func needed(f api.Field) api.Field {
	f.Needed = true
	return f
}

func rule(kind int, field, other, text string) api.Rule {
	return api.Rule{Kind: kind, Field: field, Other: other, Text: text}
}

func text(field, text string) api.Value { return api.Value{Field: field, Text: text} }

func marks(field string, l ...int) api.Value { return api.Value{Field: field, Marks: l} }

// order has some of all that a form can have.
func order() api.Form {
	return api.Form{
		Name: "order", W: 130, H: 60, Reach: 3, Dark: 400,
		Anchors: []api.Anchor{anchor(5, 5, "###", "#..", "#.."), anchor(120, 50, "#.", "##")},
		Fields: []api.Field{
			needed(textField("number", box(20, 10, 40, 6), 0)), codeField("sku", box(20, 25, 100, 5)),
			markField("paid", box(5, 40, 4, 4), box(15, 40, 4, 4)),
			needed(manyField("ways", box(40, 40, 4, 4), box(50, 40, 5, 3), box(60, 40, 1, 1))),
			textField("again", box(70, 10, 50, 9), 1000), needed(codeField("other-sku", box(20, 31, 63, 2))),
		},
		Rules: []api.Rule{
			rule(api.RuleDigits, "number", "", ""), rule(api.RuleMarks, "paid", "", "1"),
			rule(api.RuleOneOf, "number", "", "12 x 1"), rule(api.RuleSame, "again", "number", ""),
			rule(api.RuleSum, "number", "again", ""), rule(api.RuleNeeded, "sku", "", ""),
		},
	}
}

const orderText = "form order 130 60 3 400\n" +
	"anchor 5 5\n###\n#..\n#..\n" +
	"anchor 120 50\n#.\n##\n" +
	"text number 20 10 40 6 0 needed\n" +
	"code sku 20 25 100 5\n" +
	"mark paid\nbox 5 40 4 4\nbox 15 40 4 4\n" +
	"many ways needed\nbox 40 40 4 4\nbox 50 40 5 3\nbox 60 40 1 1\n" +
	"text again 70 10 50 9 1000\n" +
	"code other-sku 20 31 63 2 needed\n" +
	"digits number\nmarks paid 1\noneof number 12 x 1\nsame again number\nsum number again\nneeded sku\n"

// least is as small in all as a form can be.
func least() api.Form {
	return api.Form{Name: "a", W: 1, H: 1, Dark: 1, Fields: []api.Field{codeField("b", box(0, 0, 1, 1))}}
}

// greatest has as much of all as a form can have but texts and codes.
func greatest() api.Form {
	f := api.Form{Name: "z" + strings.Repeat("9", 39), W: 4000, H: 262, Reach: 40, Dark: 1000}
	cell := func(i int) api.Box { return box(i%400*10, i/400*26, 10, 26) }
	for i := range 10 {
		f.Anchors = append(f.Anchors, api.Anchor{Bits: plain(400, 182, true), X: 400 * i, Y: 80})
	}
	for i := range 50 {
		name := "f-" + strings.Repeat("x", 36) + strconv.Itoa(10+i)
		if i%2 == 0 {
			f.Fields = append(f.Fields, needed(manyField(name)))
		} else {
			f.Fields = append(f.Fields, markField(name))
		}
		for j := range 20 {
			f.Fields[i].Marks = append(f.Fields[i].Marks, cell(20*i+j))
		}
		f.Rules = append(f.Rules, rule(api.RuleMarks, name, "", strconv.Itoa(i)))
	}
	return f
}

// wide has texts alone, as many as there can be, with rules that use two fields.
func wide() api.Form {
	f := api.Form{Name: "wide", W: 1024, H: 1024, Reach: 40, Dark: 1}
	for i := range 50 {
		f.Fields = append(f.Fields, textField("t"+strconv.Itoa(i), box(0, 20*i, 1024, 20), 20*i))
		f.Rules = append(f.Rules, rule(api.RuleSame+i%2, "t"+strconv.Itoa(i), "t"+strconv.Itoa(49-i), ""))
	}
	return f
}

// goodForms are without errors.
func goodForms() []api.Form {
	bare := order()
	bare.Anchors, bare.Rules = nil, nil
	return []api.Form{order(), least(), greatest(), wide(), bare}
}

// wrongNumbers are outside of every range that does not reach to least and most, also if they are cut to 32 bits.
func wrongNumbers(least, most int) []int {
	return []int{least - 1, most + 1, -1 << 31, 1 << 31, 1 << 32, 1<<32 + most, -1 << 32, leastInt, leastInt + 1, mostInt, mostInt / 2}
}

func wrongNames() []string {
	return []string{"", "A", "1a", "-a", "a b", " a", "a ", "a_", "ä", "a\x00", "a.", "aB", "a\n", strings.Repeat("a", 41), strings.Repeat("a", 257)}
}

// wrongBoxes do not lie in a page of this size.
func wrongBoxes(w, h int) []api.Box {
	return []api.Box{
		{}, box(0, 0, 0, 1), box(0, 0, 1, 0), box(0, 0, -1, 1), box(0, 0, 1, -1), box(-1, 0, 1, 1), box(0, -1, 1, 1),
		box(w, 0, 1, 1), box(0, h, 1, 1), box(w-1, 0, 2, 1), box(0, h-1, 1, 2), box(0, 0, w+1, 1), box(0, 0, 1, h+1),
		box(1, 0, w, 1), box(0, 1, 1, h), box(mostInt, 0, 1, 1), box(0, mostInt, 1, 1), box(1, 0, mostInt, 1), box(0, 1, 1, mostInt),
		box(mostInt, mostInt, mostInt, mostInt), box(leastInt, 0, 1, 1), box(0, leastInt, 1, 1), box(0, 0, leastInt, 1),
		box(leastInt, leastInt, leastInt, leastInt), box(leastInt, 0, mostInt, 1), box(1<<32, 0, 1, 1), box(0, 1<<32, 1, 1),
		box(0, 0, 1<<32+1, 1), box(0, 0, 1, 1<<32+1),
	}
}

func sameBits(a, b api.Bits) bool { return a.W == b.W && a.H == b.H && slices.Equal(a.P, b.P) }

func sameForm(a, b api.Form) bool {
	sameAnchor := func(a, b api.Anchor) bool { return a.X == b.X && a.Y == b.Y && sameBits(a.Bits, b.Bits) }
	sameField := func(a, b api.Field) bool {
		return a.Name == b.Name && a.Kind == b.Kind && a.Box == b.Box && slices.Equal(a.Marks, b.Marks) && a.Most == b.Most && a.Needed == b.Needed
	}
	return a.Name == b.Name && a.W == b.W && a.H == b.H && a.Reach == b.Reach && a.Dark == b.Dark &&
		slices.EqualFunc(a.Anchors, b.Anchors, sameAnchor) && slices.EqualFunc(a.Fields, b.Fields, sameField) && slices.Equal(a.Rules, b.Rules)
}

func sameValue(a, b api.Value) bool {
	return a.Field == b.Field && a.Text == b.Text && a.Sure == b.Sure && slices.Equal(a.Marks, b.Marks)
}

// rows are those of a page, with a line feed ahead of each one.
func rows(b api.Bits) string {
	var text []byte
	for i, ink := range b.P {
		if i%b.W == 0 {
			text = append(text, '\n')
		}
		if ink {
			text = append(text, '#')
		} else {
			text = append(text, '.')
		}
	}
	return string(text)
}

// picture leaves out what is too much to look at.
func picture(b api.Bits) string { return fmt.Sprintf("%.9000s", rows(b)) }

func wantCheck(t *testing.T, what string, f api.Form, want api.Errno) {
	t.Helper()
	if e := forms.Check(f); e != want {
		t.Errorf("%.200s: error %d, want %d", what, e, want)
	}
}

func wantBits(t *testing.T, what string, got api.Bits, e api.Errno, want api.Bits) {
	t.Helper()
	if e != api.OK || !sameBits(got, want) {
		t.Errorf("%.200s: error %d, got%s\nwant%s", what, e, picture(got), picture(want))
	}
}

func wantForm(t *testing.T, what string, got api.Form, e api.Errno, want api.Form) {
	t.Helper()
	if e != api.OK || !sameForm(got, want) {
		t.Errorf("%.200s: error %d, got %.2000s\nwant %.2000s", what, e, fmt.Sprint(got), fmt.Sprint(want))
	}
}

func wantList[T comparable](t *testing.T, what string, got []T, e api.Errno, want []T) {
	t.Helper()
	if e != api.OK || !slices.Equal(got, want) {
		t.Errorf("%.200s: error %d, got %v\nwant %v", what, e, got, want)
	}
}

func wantValues(t *testing.T, what string, got []api.Value, e api.Errno, want []api.Value) {
	t.Helper()
	if e != api.OK || !slices.EqualFunc(got, want, sameValue) {
		t.Errorf("%.200s: error %d, got %v\nwant %v", what, e, got, want)
	}
}

// The following ones want an error, and the zero value of what else is returned.

func failBits(t *testing.T, what string, got api.Bits, e, want api.Errno) {
	t.Helper()
	if e != want || !sameBits(got, api.Bits{}) {
		t.Errorf("%.200s: got %d by %d, error %d; want error %d alone", what, got.W, got.H, e, want)
	}
}

func failForm(t *testing.T, what string, got api.Form, e, want api.Errno) {
	t.Helper()
	if e != want || !sameForm(got, api.Form{}) {
		t.Errorf("%.200s: got %q, error %d; want error %d alone", what, got.Name, e, want)
	}
}

func failList[T any](t *testing.T, what string, got []T, e, want api.Errno) {
	t.Helper()
	if e != want || len(got) != 0 {
		t.Errorf("%.200s: got %d of a list, error %d; want error %d alone", what, len(got), e, want)
	}
}

// failAll wants the same error of all functions with a form and a page.
func failAll(t *testing.T, what string, f api.Form, b api.Bits, font api.Font, want api.Errno) {
	t.Helper()
	found, e := forms.Anchors(f, b)
	failList(t, "Anchors "+what, found, e, want)
	p, e := forms.Offset(f, b)
	if p != (api.Point{}) || e != want {
		t.Errorf("Offset %.200s: %v, error %d; want error %d alone", what, p, e, want)
	}
	placed, e := forms.Place(f, b)
	failBits(t, "Place "+what, placed, e, want)
	for _, name := range []string{"paid", "number", "none", ""} {
		l, e := forms.Mark(f, b, name)
		failList(t, "Mark "+what, l, e, want)
	}
	values, e := forms.Read(f, b, font)
	failList(t, "Read "+what, values, e, want)
}
