package forms_test

import (
	"slices"
	"strconv"
	"strings"
	"testing"

	"flatbed/api"
	"flatbed/forms"
)

// printable are good forms whose anchors can be printed.
func printable() []api.Form {
	large := greatest()
	for i := range large.Anchors {
		large.Anchors[i].Bits = mixedBits(i, 200, 182, 128)
	}
	higher := api.Form{Name: "h", W: 1000, H: 1000, Dark: 7, Fields: []api.Field{manyField("b", box(999, 999, 1, 1))}}
	for i := range 4 {
		higher.Anchors = append(higher.Anchors, api.Anchor{Bits: mixedBits(i, 200, 200, 128), X: 200 * i, Y: 700})
	}
	named := fields(rule(api.RuleNeeded, "needed", "", ""), rule(api.RuleOneOf, "text", "", "needed box # ."), rule(api.RuleSame, "text", "code", ""))
	named.Name = "form"
	named.Fields[2].Name, named.Fields[3].Name = "needed", "box"
	named.Fields[3].Needed = true
	all := named
	all.Fields = slices.Clone(named.Fields)
	for i := range all.Fields {
		all.Fields[i].Needed = !all.Fields[i].Needed
	}
	return []api.Form{order(), least(), large, wide(), higher, named, all, fields()}
}

func TestPrint(t *testing.T) {
	text, e := forms.Print(order())
	if text != orderText || e != api.OK {
		t.Errorf("%d %q", e, text)
	}
	text, e = forms.Print(least())
	if text != "form a 1 1 0 1\ncode b 0 0 1 1\n" || e != api.OK {
		t.Errorf("%d %q", e, text)
	}
	for _, bad := range flawsInOrder() {
		f := order()
		bad.spoil(&f)
		if text, e := forms.Print(f); text != "" || e != bad.want {
			t.Errorf("%s: %d %.100q", bad.what, e, text)
		}
	}
}

func TestPrintAndParse(t *testing.T) {
	for _, f := range printable() {
		text, e := forms.Print(f)
		if want := printByPromise(f); text != want || e != api.OK {
			t.Errorf("%s: %d %.1000q\nwant %.1000q", f.Name, e, text, want)
		}
		g, at, e := forms.Parse(text)
		if wantForm(t, f.Name, g, e, f); at != 0 {
			t.Error(f.Name, at)
		}
	}
}

// TestPrintLarge has anchors that page.Print does not print, and texts of rules that are too long.
func TestPrintLarge(t *testing.T) {
	for size, want := range map[[2]int]api.Errno{{200, 200}: api.OK, {201, 1}: api.ErrLarge, {1, 201}: api.ErrLarge, {1, 200}: api.OK, {3999, 1}: api.ErrLarge} {
		f := api.Form{Name: "a", W: 4000, H: 250, Dark: 1, Anchors: []api.Anchor{anchor(3999, 0, "#"), {Bits: plain(size[0], size[1], true)}}, Fields: []api.Field{codeField("b", box(3999, 249, 1, 1))}}
		text, e := forms.Print(f)
		if e != want || e != api.OK && text != "" {
			t.Error(size, e, len(text))
		}
	}
	f := fields(rule(api.RuleNeeded, "text", "", ""), rule(api.RuleOneOf, "text", "", "a"), rule(api.RuleDigits, "text", "", ""))
	least, _ := forms.Print(f)
	f.Rules[1].Text = strings.Repeat("a", 1<<20-len(least)+1)
	text, e := forms.Print(f)
	if e != api.OK || len(text) != 1<<20 {
		t.Error(len(text), e)
	}
	g, at, e := forms.Parse(text)
	if wantForm(t, "as long as can be", g, e, f); at != 0 {
		t.Error(at)
	}
	g, at, e = forms.Parse(text + "\n")
	if failForm(t, "too long", g, e, api.ErrLarge); at != 0 {
		t.Error(at)
	}
	f.Rules[1].Text += "a"
	if text, e := forms.Print(f); text != "" || e != api.ErrLarge {
		t.Error(len(text), e)
	}
	f.Rules[2] = rule(api.RuleOneOf, "text", "", strings.Repeat("b ", 3<<20)+"c")
	if text, e := forms.Print(f); text != "" || e != api.ErrLarge {
		t.Error(len(text), e)
	}
}

func TestParseSyntax(t *testing.T) {
	const head, text, mark = "form a 20 20 0 1\n", "text t 0 0 9 9 0\n", "mark m\nbox 9 9 1 1\n"
	for _, c := range []struct {
		text string
		at   int
	}{
		// A text that ends too early has the number of its lines.
		{"", 0}, {head + "anchor 1 1\n", 2}, {head + "anchor 1 1\n#\nanchor 3 1\n", 4},
		// A line without a line feed.
		{"form a 20 20 0 1", 0}, {head + "text t 0 0 9 9 0", 1}, {head + text + "mark m", 2}, {head + text + mark[:len(mark)-1], 3},
		{head + "anchor 1 1", 1}, {head + "anchor 1 1\n#", 2}, {head + "anchor 1 1\n#\n#", 3}, {head + text + "needed t", 2}, {orderText[:len(orderText)-1], 24}, {"x", 0},
		// The first line.
		{"\n", 0}, {"\n" + head, 0}, {"forms a 20 20 0 1\n", 0}, {"Form a 20 20 0 1\n", 0}, {" form a 20 20 0 1\n", 0}, {"form a 20 20 0\n", 0}, {"form a 20 20 0 1 1\n", 0},
		{"form a 20 20 0 1 \n", 0}, {"form  a 20 20 0 1\n", 0}, {"form a  20 20 0 1\n", 0}, {"form\ta 20 20 0 1\n", 0}, {"form  20 20 0 1\n", 0}, {"form 20 20 0 1\n", 0},
		{"form a\n", 0}, {"form\n", 0}, {"form \n", 0}, {"form a 20 20 0 1\r\n", 0}, {"form a b 20 20 0 1\n", 0}, {"form a 20 20 0 1 needed\n", 0}, {text, 0}, {"anchor 1 1\n#\n", 0},
		// Numbers.
		{"form a 020 20 0 1\n", 0}, {"form a 20 20 00 1\n", 0}, {"form a -20 20 0 1\n", 0}, {"form a 20 +20 0 1\n", 0}, {"form a 20 20 0 1x\n", 0}, {"form a 20 20 0.5 1\n", 0},
		{"form a 20 20 0x0 1\n", 0}, {"form a 20 20 0 1234567890\n", 0}, {"form a 20 20 0 99999999999999999999999\n", 0}, {"form a 2_0 20 0 1\n", 0}, {"form a \xb2 20 0 1\n", 0}, {"form a 1e1 20 0 1\n", 0},
		{head + "anchor -1 1\n#\n", 1}, {head + "anchor 01 1\n#\n", 1}, {head + "anchor 1 1000000000\n#\n", 1}, {head + "anchor 1\n#\n", 1}, {head + "anchor 1 1 1\n#\n", 1}, {head + "anchor\n#\n", 1},
		{head + "anchor 1 1 \n#\n", 1}, {head + "anchor  1 1\n#\n", 1}, {head + "anchors 1 1\n#\n", 1}, {head + "Anchor 1 1\n#\n", 1},
		// Rows.
		{head + "#\n", 1}, {head + "anchor 1 1\n\n", 2}, {head + "anchor 1 1\n" + text, 2}, {head + "anchor 1 1\nx\n", 2}, {head + "anchor 1 1\n#\n##\n" + text, 3}, {head + "anchor 1 1\n##\n##\n.\n" + text, 4},
		{head + "anchor 1 1\n##\n#x\n" + text, 3}, {head + "anchor 1 1\n##\n# \n" + text, 3}, {head + "anchor 1 1\n##\n\n" + text, 3}, {head + "anchor 1 1\n#\r\n" + text, 2},
		{head + "anchor 1 1\n#\nanchor 3 1\n#\n##\n" + text, 5}, {head + "anchor 1 1\n#\nanchor 3 1\n" + text, 4}, {head + text + "#\n", 2}, {head + text + "needed t\n#\n", 3},
		// Fields.
		{head + "\n", 1}, {head + "field t 0 0 9 9 0\n", 1}, {head + "text\n", 1}, {head + "text \n", 1}, {head + "text t\n", 1}, {head + "text 0 0 9 9 0\n", 1}, {head + "text  0 0 9 9 0\n", 1},
		{head + "text t 0 0 9 9\n", 1}, {head + "text t 0 0 9 9 0 0\n", 1}, {head + "text t 0 0 9 9 0 \n", 1}, {head + "text t 0 0 9 9 0 need\n", 1}, {head + "text t 0 0 9 9 0  needed\n", 1},
		{head + "text t 0 0 9 9 0 needed \n", 1}, {head + "text t 0 0 9 9 0 needed needed\n", 1}, {head + "text t needed 0 0 9 9 0\n", 1}, {head + "text t 0 0 9 9 needed\n", 1}, {head + "Text t 0 0 9 9 0\n", 1},
		{head + "text t u 0 0 9 9 0\n", 1}, {head + "text t 0 0 9 9 -1\n", 1}, {head + "text t 0 0 9 9 0\t\n", 1}, {head + "code c 0 0 9 9 0\n", 1}, {head + "code c 0 0 9\n", 1}, {head + "code c 0 0 9 needed\n", 1},
		{head + "code needed\n", 1}, {head + "code c 0 0 9 1000000000\n", 1}, {head + "mark\n", 1}, {head + "mark \n", 1}, {head + "mark m 0 0 9 9\n", 1}, {head + "mark m needed needed\n", 1}, {head + "many m need\n", 1},
		{head + "many m \n", 1}, {head + "many m needed \n", 1}, {head + "many  needed\n", 1}, {head + "marked m\n", 1},
		{head + text + head, 2}, {head + text + "anchor 12 12\n#\n", 2}, {head + mark + "anchor 12 12\n#\n", 3},
		// Marks.
		{head + "box 9 9 1 1\n", 1}, {head + "anchor 1 1\n#\nbox 9 9 1 1\n", 3}, {head + "mark m\nbox 9 9 1\n", 2}, {head + "mark m\nbox 9 9 1 1 1\n", 2}, {head + "mark m\nbox 9 9 1 1 needed\n", 2}, {head + "mark m\nbox 9 9 1 \n", 2},
		{head + "mark m\nbox 9 9 1 01\n", 2}, {head + "mark m\nbox\n", 2}, {head + "mark m\nboxes 9 9 1 1\n", 2}, {head + "mark m\nBox 9 9 1 1\n", 2}, {head + mark + "box 9 -9 1 1\n", 3},
		{head + mark + "needed m\nbox 11 11 1 1\n", 4}, {head + text + "needed t\nbox 11 11 1 1\n", 3},
		// Rules.
		{head + text + "needed\n", 2}, {head + text + "needed \n", 2}, {head + text + "needed t t\n", 2}, {head + text + "needed t \n", 2}, {head + text + "needed  t\n", 2}, {head + text + "digits t 1\n", 2}, {head + text + "digits t \n", 2},
		{head + text + "digit t\n", 2}, {head + text + "oneof t\n", 2}, {head + text + "oneof t \n", 2}, {head + text + "oneof\n", 2}, {head + text + "oneof  a\n", 2}, {head + text + "same t\n", 2}, {head + text + "same t \n", 2},
		{head + text + "same t t t\n", 2}, {head + text + "same t t \n", 2}, {head + text + "same t  t\n", 2}, {head + text + "same  t t\n", 2}, {head + text + "sum t\n", 2}, {head + text + "sum t t 1\n", 2}, {head + text + "sum t t \n", 2},
		{head + mark + "marks m\n", 3}, {head + mark + "marks m \n", 3}, {head + mark + "marks\n", 3}, {head + mark + "marks  1\n", 3}, {head + text + "Needed t\n", 2}, {head + text + "needed t\n\n", 3}, {head + text + "needed t\n" + text, 3},
		{head + text + "needed t\n" + mark, 3}, {head + text + "needed t\nanchor 1 1\n#\n", 3}, {head + "needed t\n" + text, 2}, {orderText + "\n", 25}, {orderText + "x", 25}, {orderText + "x\n", 25}, {orderText + orderText, 25},
		// What Check would find is found later, also if it stands ahead.
		{"form A 0 0 99 0\nanchor 9 9\n.\ntext T 5 5 0 0 0\nmark 1\nneeded none\nx\n", 6},
	} {
		f, at, e := forms.Parse(c.text)
		failForm(t, c.text, f, e, api.ErrSyntax)
		if at != c.at {
			t.Errorf("%q: line %d, want %d", c.text, at, c.at)
		}
	}
}

// TestParseLines takes each line of a form away, and writes it twice; what is left is a form, or what is wrong is told.
func TestParseLines(t *testing.T) {
	lines := strings.SplitAfter(orderText, "\n")
	lines = lines[:len(lines)-1]
	less := map[int]int{0: 0, 1: 1, 5: 5}
	for i := range lines {
		text := strings.Join(slices.Delete(slices.Clone(lines), i, i+1), "")
		_, at, e := forms.Parse(text)
		if want, ok := less[i]; ok && (e != api.ErrSyntax || at != want) || !ok && e == api.ErrSyntax {
			t.Error("without line", i, at, e)
		}
		text = strings.Join(slices.Insert(slices.Clone(lines), i, lines[i]), "")
		_, at, e = forms.Parse(text)
		want, syntax := map[int]int{0: 1, 1: 2, 5: 6}[i]
		if syntax && (e != api.ErrSyntax || at != want) || !syntax && e == api.ErrSyntax {
			t.Error("twice line", i, at, e)
		}
		text = strings.Join(slices.Insert(slices.Clone(lines), i, "nonsense\n"), "")
		f, at, e := forms.Parse(text)
		if failForm(t, "nonsense", f, e, api.ErrSyntax); at != i {
			t.Error("nonsense at", i, at)
		}
	}
}

func TestParseCheck(t *testing.T) {
	const head, text, mark = "form a 20 20 0 1\n", "text t 0 0 9 9 0\n", "mark m\nbox 9 9 1 1\n"
	many := func(n int, line string) string {
		all := ""
		for i := range n {
			all += strings.ReplaceAll(line, "N", strconv.Itoa(i))
		}
		return all
	}
	for text, want := range map[string]api.Errno{
		head + text: api.OK, head + mark: api.OK, head + text + mark + "sum t t\nmarks m 0\n": api.OK,
		"form A 20 20 0 1\n" + text: api.ErrName, "form \xff\x00 20 20 0 1\n" + text: api.ErrName, "form a 0 20 0 1\n" + text: api.ErrRange, "form a 999999999 999999999 0 1\n" + text: api.ErrRange,
		"form a 4000 4000 0 1\n" + text: api.ErrLarge, "form a 20 20 41 1\n" + text: api.ErrRange, "form a 20 20 0 0\n" + text: api.ErrRange, "form a 20 20 0 1001\n": api.ErrRange,
		head + many(11, "anchor N 19\n#\n") + text: api.ErrLarge, head + many(10, "anchor N 19\n#\n") + text: api.OK, head + "anchor 1 19\n.\n" + text: api.ErrNone, head + "anchor 19 19\n##\n" + text: api.ErrPlace,
		head + "anchor 999999999 0\n#\n" + text: api.ErrPlace, head: api.ErrEmpty, head + "anchor 1 19\n#\n": api.ErrEmpty, head + "needed t\n": api.ErrEmpty, head + many(51, "mark mN\nbox N 0 1 1\n"): api.ErrLarge,
		head + "text T 0 0 9 9 0\n": api.ErrName, head + "mark needed-\tx\nbox 0 0 1 1\n": api.ErrName, head + text + text: api.ErrTwice, head + text + "code t 9 9 1 1\n": api.ErrTwice,
		head + "text t 0 0 21 9 0\n": api.ErrPlace, head + "text t 0 0 0 0 0\n": api.ErrPlace, head + "code c 20 0 1 1\n": api.ErrPlace, head + "text t 0 0 9 9 1001\n": api.ErrRange, head + "text t 0 0 9 9 999999999 needed\n": api.ErrRange,
		head + "mark m\n": api.ErrForm, head + "many m needed\n": api.ErrForm, head + mark + "many n\nneeded m\n": api.ErrForm, head + text + "box 9 9 1 1\n": api.ErrForm, head + "code c 0 0 9 9\nbox 9 9 1 1\nbox 0 0 0 0\n": api.ErrForm,
		head + "mark m\n" + many(20, "box N 9 1 1\n"): api.OK, head + "mark m\n" + many(21, "box N 9 1 1\n"): api.ErrLarge, head + mark + "box 20 0 1 1\n": api.ErrPlace, head + mark + "box 9 9 0 0\n": api.ErrPlace,
		head + mark + "box 9 9 1 1\n": api.ErrConflict, head + text + "mark m\nbox 8 8 1 1\n": api.ErrConflict, head + "anchor 8 8\n#\n" + text: api.ErrConflict,
		head + text + many(51, "needed t\n"): api.ErrLarge, head + text + many(50, "needed t\n"): api.OK, head + text + "needed T\n": api.ErrNone, head + text + "same t u\n": api.ErrNone, head + text + mark + "digits m\n": api.ErrKind,
		head + text + mark + "sum t m\n": api.ErrKind, head + text + "marks t 1\n": api.ErrKind, head + mark + "marks m 100\n": api.ErrForm, head + mark + "marks m x\n": api.ErrForm, head + mark + "marks m 01\n": api.ErrForm,
		head + mark + "marks m 1 1\n": api.ErrForm, head + text + "oneof t a  b\n": api.ErrForm, head + text + "oneof t a \n": api.ErrForm, head + text + "oneof t \xe4\n": api.ErrForm, head + text + "oneof t  a\n": api.ErrForm, head + text + "oneof t a\r\n": api.ErrForm,
		// An anchor that cannot be printed.
		"form a 300 300 0 1\nanchor 1 1\n" + strings.Repeat("#", 200) + "\n" + "mark m\nbox 0 0 1 1\n": api.OK, "form a 300 300 0 1\nanchor 1 1\n" + strings.Repeat("#", 201) + "\n" + "mark m\nbox 0 0 1 1\n": api.ErrLarge,
		"form a 300 300 0 1\nanchor 1 1\n" + strings.Repeat("#\n", 200) + "mark m\nbox 0 0 1 1\n": api.OK, "form a 300 300 0 1\nanchor 1 1\n" + strings.Repeat("#\n", 201) + "mark m\nbox 0 0 1 1\n": api.ErrLarge,
	} {
		f, at, e := forms.Parse(text)
		if at != 0 || e != want || e != api.OK && !sameForm(f, api.Form{}) {
			t.Errorf("%.100q: line %d, error %d; want %d", text, at, e, want)
		}
		if again, _ := forms.Print(f); e == api.OK && again != text {
			t.Errorf("%.100q is written as %.100q", text, again)
		}
	}
}

// TestParseMuch has texts as long as they can be.
func TestParseMuch(t *testing.T) {
	const head = "form a 20 20 0 1\n"
	long := func(line string) string { return head + strings.Repeat(line, (1<<20-len(head))/len(line)) }
	for line, want := range map[string]api.Errno{
		"mark m\n": api.ErrLarge, "needed m\n": api.ErrEmpty, "code m 0 0 1 1 needed\n": api.ErrLarge, "anchor 1 1\n#\n": api.ErrLarge, "same m m\n": api.ErrEmpty, "oneof m m\n": api.ErrEmpty,
	} {
		f, at, e := forms.Parse(long(line))
		if failForm(t, line, f, e, want); at != 0 {
			t.Error(line, at)
		}
	}
	f, at, e := forms.Parse(head + "mark m\n" + strings.Repeat("box 0 0 1 1\n", 80000))
	if failForm(t, "boxes", f, e, api.ErrLarge); at != 0 {
		t.Error(at)
	}
	f, at, e = forms.Parse(strings.Repeat("\n", 1<<20))
	if failForm(t, "empty lines", f, e, api.ErrSyntax); at != 0 {
		t.Error(at)
	}
	f, at, e = forms.Parse(strings.Repeat("x", 1<<20+1))
	if failForm(t, "too long", f, e, api.ErrLarge); at != 0 {
		t.Error(at)
	}
	f, at, e = forms.Parse(head + "mark m\n" + strings.Repeat(" ", 1<<19) + "\n")
	if failForm(t, "spaces", f, e, api.ErrSyntax); at != 2 {
		t.Error(at)
	}
	f, at, e = forms.Parse(head + "anchor 1 1\n" + strings.Repeat("#.#\n", 200000) + "nonsense\n")
	if failForm(t, "rows", f, e, api.ErrLarge); at != 0 {
		t.Error(at)
	}
	f, at, e = forms.Parse(head + "nonsense\nanchor 1 1\n" + strings.Repeat("#.#\n", 200000))
	if failForm(t, "rows behind nonsense", f, e, api.ErrSyntax); at != 1 {
		t.Error(at)
	}
}
