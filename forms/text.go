package forms

import (
	"strconv"
	"strings"

	"flatbed/api"
	"flatbed/page"
)

const (
	formMark   = "form"
	anchorMark = "anchor"
	boxMark    = "box"
	neededMark = "needed"
	maxDigits  = 9
)

// fieldWords has for each kind of field the word with which its line begins.
func fieldWords() map[int]string {
	return map[int]string{api.FieldText: "text", api.FieldCode: "code", api.FieldMark: "mark", api.FieldMany: "many"}
}

// ruleWords has for each kind of rule the word with which its line begins.
func ruleWords() map[int]string {
	return map[int]string{
		api.RuleNeeded: "needed", api.RuleDigits: "digits", api.RuleOneOf: "oneof",
		api.RuleSame: "same", api.RuleSum: "sum", api.RuleMarks: "marks",
	}
}

// kindOf returns the kind with a word. No two kinds have the same one.
func kindOf(words map[int]string, word string) (kind int, ok bool) {
	for kind, other := range words {
		if other == word {
			return kind, true
		}
	}
	return 0, false
}

// The numbers of a line, in the order in which they are written and read:

func headNumbers(f *api.Form) []*int { return []*int{&f.W, &f.H, &f.Reach, &f.Dark} }

func anchorNumbers(a *api.Anchor) []*int { return []*int{&a.X, &a.Y} }

func boxNumbers(box *api.Box) []*int { return []*int{&box.X, &box.Y, &box.W, &box.H} }

func fieldNumbers(field *api.Field) []*int {
	switch field.Kind {
	case api.FieldText:
		return append(boxNumbers(&field.Box), &field.Most)
	case api.FieldCode:
		return boxNumbers(&field.Box)
	}
	return nil
}

// Print writes a form as lines.
func Print(f api.Form) (string, api.Errno) {
	if e := Check(f); e != api.OK {
		return "", e
	}
	var text strings.Builder
	text.WriteString(lineOf(formMark, f.Name, written(headNumbers(&f))))
	for _, a := range f.Anchors {
		rows, e := page.Print(a.Bits)
		if e != api.OK {
			return "", e
		}
		text.WriteString(lineOf(anchorMark, written(anchorNumbers(&a))) + rows)
	}
	for _, field := range f.Fields {
		text.WriteString(printField(field))
	}
	// Only rules can be so long that the text is too large.
	for _, r := range f.Rules {
		text.WriteString(lineOf(ruleWords()[r.Kind], r.Field, r.Other, r.Text))
		if text.Len() > api.MaxText {
			return "", api.ErrLarge
		}
	}
	return text.String(), api.OK
}

// lineOf leaves out what is empty.
func lineOf(parts ...string) string {
	var line []string
	for _, part := range parts {
		if part != "" {
			line = append(line, part)
		}
	}
	return strings.Join(line, space) + "\n"
}

func written(numbers []*int) string {
	var words []string
	for _, n := range numbers {
		words = append(words, strconv.Itoa(*n))
	}
	return strings.Join(words, space)
}

// printField writes the lines of a field and of its marks.
func printField(field api.Field) string {
	needed := ""
	if field.Needed {
		needed = neededMark
	}
	text := lineOf(fieldWords()[field.Kind], field.Name, written(fieldNumbers(&field)), needed)
	for _, box := range field.Marks {
		text += lineOf(boxMark, written(boxNumbers(&box)))
	}
	return text
}

// Parse reads what Print writes; the second result is the number of the line with ErrSyntax, otherwise 0.
func Parse(text string) (api.Form, int, api.Errno) {
	if len(text) > api.MaxText {
		return api.Form{}, 0, api.ErrLarge
	}
	lines := page.Lines{Rest: text}
	f, e := readForm(&lines)
	if e == api.ErrSyntax {
		return api.Form{}, lines.At, e
	}
	if e == api.OK {
		e = Check(f)
	}
	if e != api.OK {
		return api.Form{}, 0, e
	}
	return f, 0, api.OK
}

// readForm reads the lines of a form, whatever Check will find: each kind of line as long as such lines follow. Then the
// next one cannot stand there.
func readForm(lines *page.Lines) (f api.Form, e api.Errno) {
	if !lines.Next(func(line string) bool { return readHead(line, &f) }) {
		return f, api.ErrSyntax
	}
	for lines.Next(func(line string) bool { return addAnchor(line, &f) }) {
		b, e := readShape(lines)
		if e != api.OK {
			return f, e
		}
		f.Anchors[len(f.Anchors)-1].Bits = b
	}
	lines.Each(func(line string) bool { return addField(line, &f) || addMark(line, &f) })
	lines.Each(func(line string) bool { return addRule(line, &f) })
	if lines.Rest != "" {
		return f, api.ErrSyntax
	}
	return f, api.OK
}

func readHead(line string, f *api.Form) bool {
	words := strings.Split(line, space)
	if len(words) < 2 || words[0] != formMark || words[1] == "" {
		return false
	}
	f.Name = words[1]
	return page.Numbers(words[2:], maxDigits, headNumbers(f)...)
}

func addAnchor(line string, f *api.Form) bool {
	var a api.Anchor
	words := strings.Split(line, space)
	ok := words[0] == anchorMark && page.Numbers(words[1:], maxDigits, anchorNumbers(&a)...)
	if ok {
		f.Anchors = append(f.Anchors, a)
	}
	return ok
}

// readShape reads all rows that follow. A shape that is too large to be printed has ErrLarge.
func readShape(lines *page.Lines) (api.Bits, api.Errno) {
	at, text := lines.At, lines.Rest
	lines.Each(page.IsRow)
	b, row, e := page.Parse(text[:len(text)-len(lines.Rest)])
	switch e {
	case api.ErrEmpty:
		return api.Bits{}, api.ErrSyntax
	case api.ErrSyntax:
		lines.At = at + row
	}
	return b, e
}

func addField(line string, f *api.Form) bool {
	words := strings.Split(line, space)
	kind, ok := kindOf(fieldWords(), words[0])
	if !ok || len(words) < 2 || words[1] == "" {
		return false
	}
	field := api.Field{Kind: kind, Name: words[1]}
	rest := words[2:]
	if last := len(rest) - 1; last >= 0 && rest[last] == neededMark {
		field.Needed = true
		rest = rest[:last]
	}
	ok = page.Numbers(rest, maxDigits, fieldNumbers(&field)...)
	if ok {
		f.Fields = append(f.Fields, field)
	}
	return ok
}

// addMark adds a mark to the last field, also if this is of a kind without marks: Check finds that.
func addMark(line string, f *api.Form) bool {
	var box api.Box
	words := strings.Split(line, space)
	ok := len(f.Fields) > 0 && words[0] == boxMark && page.Numbers(words[1:], maxDigits, boxNumbers(&box)...)
	if ok {
		last := &f.Fields[len(f.Fields)-1]
		last.Marks = append(last.Marks, box)
	}
	return ok
}

// addRule takes as many words as the kind of rule needs; a text goes to the end of the line.
func addRule(line string, f *api.Form) bool {
	word, rest, _ := strings.Cut(line, space)
	name, more, isMore := strings.Cut(rest, space)
	kind, ok := kindOf(ruleWords(), word)
	if !ok || name == "" {
		return false
	}
	r := api.Rule{Kind: kind, Field: name}
	switch l := lawsByKind()[kind]; {
	case l.usesOther:
		r.Other = more
		ok = more != "" && !strings.Contains(more, space)
	case l.text != nil:
		r.Text = more
		ok = more != ""
	default:
		ok = !isMore
	}
	if ok {
		f.Rules = append(f.Rules, r)
	}
	return ok
}
