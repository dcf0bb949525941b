package forms_test

import (
	"slices"
	"strconv"
	"strings"
	"testing"

	"flatbed/api"
	"flatbed/bar"
	"flatbed/glyph"
)

// The functions here are the promises, written out word by word, for arguments without errors.

func anchorsByPromise(f api.Form, b api.Bits) []api.Found {
	var l []api.Found
	for _, a := range f.Anchors {
		var best api.Found
		is := false
		for dx := -f.Reach; dx <= f.Reach; dx++ {
			for dy := -f.Reach; dy <= f.Reach; dy++ {
				x, y := a.X+dx, a.Y+dy
				if x < 0 || y < 0 || x+a.Bits.W > b.W || y+a.Bits.H > b.H {
					continue
				}
				n := 0
				for i, ink := range a.Bits.P {
					if ink != at(b, x+i%a.Bits.W, y+i/a.Bits.W) {
						n++
					}
				}
				here := api.Found{DX: dx, DY: dy, Distance: n}
				if !is || isAhead(here, best) {
					best, is = here, true
				}
			}
		}
		l = append(l, best)
	}
	return l
}

func isAhead(a, b api.Found) bool {
	far := func(f api.Found) int { return max(f.DX, -f.DX) + max(f.DY, -f.DY) }
	switch {
	case a.Distance != b.Distance:
		return a.Distance < b.Distance
	case far(a) != far(b):
		return far(a) < far(b)
	case a.DY != b.DY:
		return a.DY < b.DY
	}
	return a.DX < b.DX
}

func offsetByPromise(f api.Form, b api.Bits) api.Point {
	var across, down []int
	for _, at := range anchorsByPromise(f, b) {
		across, down = append(across, at.DX), append(down, at.DY)
	}
	if len(across) == 0 {
		return api.Point{}
	}
	slices.Sort(across)
	slices.Sort(down)
	return api.Point{X: across[(len(across)-1)/2], Y: down[(len(down)-1)/2]}
}

func placeByPromise(f api.Form, b api.Bits) api.Bits {
	by := offsetByPromise(f, b)
	return moved(b, -by.X, -by.Y)
}

// fillByPromise draws pixel by pixel.
func fillByPromise(t *testing.T, f api.Form, values []api.Value, font api.Font) api.Bits {
	t.Helper()
	b := plain(f.W, f.H, false)
	ink := func(c api.Bits, e api.Errno, x, y int) {
		if e != api.OK {
			t.Fatal("a value that cannot be drawn", e)
		}
		for i, is := range c.P {
			if is {
				b.P[(y+i/c.W)*b.W+x+i%c.W] = true
			}
		}
	}
	for _, a := range f.Anchors {
		ink(a.Bits, api.OK, a.X, a.Y)
	}
	for _, v := range values {
		field := f.Fields[slices.IndexFunc(f.Fields, func(field api.Field) bool { return field.Name == v.Field })]
		for _, i := range v.Marks {
			m := field.Marks[i]
			ink(plain(m.W, m.H, true), api.OK, m.X, m.Y)
		}
		switch {
		case v.Text == "":
		case field.Kind == api.FieldText:
			c, e := glyph.Set(font, v.Text)
			ink(c, e, field.Box.X, field.Box.Y)
		default:
			modules, e := bar.Code39(v.Text)
			if len(v.Text) == 13 && strings.Trim(v.Text, "0123456789") == "" {
				modules, e = bar.EAN(v.Text)
			}
			if e != api.OK {
				t.Fatal("no code", v.Text, e)
			}
			c, e := bar.Draw(modules, 1, field.Box.H, 0)
			ink(c, e, field.Box.X, field.Box.Y)
		}
	}
	return b
}

func inkIn(b api.Bits, box api.Box) int {
	n := 0
	for y := range box.H {
		for x := range box.W {
			if at(b, box.X+x, box.Y+y) {
				n++
			}
		}
	}
	return n
}

func cutOut(b api.Bits, box api.Box) api.Bits {
	c := plain(box.W, box.H, false)
	for i := range c.P {
		c.P[i] = at(b, box.X+i%c.W, box.Y+i/c.W)
	}
	return c
}

func marksByPromise(f api.Form, placed api.Bits, field api.Field) []int {
	var l []int
	for i, m := range field.Marks {
		if 1000*inkIn(placed, m) >= f.Dark*m.W*m.H {
			l = append(l, i)
		}
	}
	return l
}

func readByPromise(t *testing.T, f api.Form, b api.Bits, font api.Font) []api.Value {
	t.Helper()
	placed := placeByPromise(f, b)
	var l []api.Value
	for _, field := range f.Fields {
		v := api.Value{Field: field.Name, Sure: 1000}
		switch field.Kind {
		case api.FieldText:
			v.Text, v.Sure = textByPromise(t, placed, field, font)
		case api.FieldCode:
			v.Text, v.Sure = codeByPromise(t, placed, field)
		default:
			v.Marks = marksByPromise(f, placed, field)
			if field.Kind == api.FieldMark && len(v.Marks) > 1 {
				v.Sure = 0
			}
		}
		l = append(l, v)
	}
	return l
}

func textByPromise(t *testing.T, placed api.Bits, field api.Field, font api.Font) (string, int) {
	t.Helper()
	line := cutOut(placed, box(field.Box.X, field.Box.Y, field.Box.W, font.Height))
	seen, e := glyph.Read(font, line, field.Most)
	if e != api.OK {
		t.Fatal("Read", e)
	}
	if inkIn(line, box(0, 0, line.W, line.H)) == 0 {
		return "", 1000
	}
	text, sum, width := "", 0, 0
	known := true
	for _, s := range seen {
		text += s.Text
		if s.Distance >= 0 {
			sum += 1000 * s.Distance
		} else {
			known = false
		}
		if s.Text != " " {
			width += s.Box.W
		}
	}
	if !known {
		return text, 0
	}
	return text, max(0, 1000-sum/(font.Height*width))
}

func codeByPromise(t *testing.T, placed api.Bits, field api.Field) (string, int) {
	t.Helper()
	codes, e := bar.Find(cutOut(placed, field.Box), 1)
	if e != api.OK {
		t.Fatal("Find", e)
	}
	var best api.Code
	for _, c := range codes {
		if c.Count > best.Count {
			best = c
		}
	}
	if best.Count == 0 && inkIn(placed, field.Box) == 0 {
		return "", 1000
	}
	return best.Text, 1000 * best.Count / field.Box.H
}

func bestByPromise(l []api.Form, b api.Bits) (int, int) {
	best, least := -1, 0
	for i, f := range l {
		if f.W != b.W || f.H != b.H {
			continue
		}
		n := 1000
		if len(f.Anchors) > 0 {
			sum, pixels := 0, 0
			for k, at := range anchorsByPromise(f, b) {
				sum += at.Distance
				pixels += f.Anchors[k].Bits.W * f.Anchors[k].Bits.H
			}
			n = 1000 * sum / pixels
		}
		if best < 0 || n < least {
			best, least = i, n
		}
	}
	return best, least
}

// isBroken tells whether values break a rule. A field without a value has the zero one.
func isBroken(r api.Rule, values map[string]api.Value) bool {
	v, o := values[r.Field], values[r.Other]
	areDigits := func(text string) bool { return text != "" && strings.Trim(text, "0123456789") == "" }
	switch r.Kind {
	case api.RuleNeeded:
		return v.Text == "" && len(v.Marks) == 0
	case api.RuleDigits:
		return v.Text != "" && !areDigits(v.Text)
	case api.RuleOneOf:
		return v.Text != "" && !slices.Contains(strings.Split(r.Text, " "), v.Text)
	case api.RuleSame:
		return v.Text != o.Text
	case api.RuleSum:
		if v.Text == "" || o.Text == "" {
			return false
		}
		if !areDigits(v.Text) || !areDigits(o.Text) {
			return true
		}
		sum := 0
		for _, c := range v.Text {
			sum += int(c - '0')
		}
		return strconv.Itoa(sum%10) != o.Text[len(o.Text)-1:]
	}
	return strconv.Itoa(len(v.Marks)) != r.Text
}

func rulesByPromise(f api.Form, values []api.Value) []api.Broken {
	given := map[string]api.Value{}
	for _, v := range values {
		given[v.Field] = v
	}
	rules := slices.Clone(f.Rules)
	at := make([]int, len(rules))
	for i := range rules {
		at[i] = i
	}
	for i, field := range f.Fields {
		if field.Needed {
			rules = append(rules, rule(api.RuleNeeded, field.Name, "", ""))
			at = append(at, len(f.Rules)+i)
		}
	}
	var l []api.Broken
	for i, r := range rules {
		if isBroken(r, given) {
			l = append(l, api.Broken{Rule: at[i], Field: r.Field})
		}
	}
	return l
}

func printByPromise(f api.Form) string {
	numbers := func(l ...int) string {
		text := ""
		for _, n := range l {
			text += " " + strconv.Itoa(n)
		}
		return text
	}
	text := "form " + f.Name + numbers(f.W, f.H, f.Reach, f.Dark) + "\n"
	for _, a := range f.Anchors {
		text += "anchor" + numbers(a.X, a.Y) + rows(a.Bits) + "\n"
	}
	for _, d := range f.Fields {
		text += map[int]string{1: "text ", 2: "code ", 3: "mark ", 4: "many "}[d.Kind] + d.Name
		if d.Kind <= 2 {
			text += numbers(d.Box.X, d.Box.Y, d.Box.W, d.Box.H)
		}
		if d.Kind == 1 {
			text += numbers(d.Most)
		}
		text += map[bool]string{false: "\n", true: " needed\n"}[d.Needed]
		for _, m := range d.Marks {
			text += "box" + numbers(m.X, m.Y, m.W, m.H) + "\n"
		}
	}
	for _, r := range f.Rules {
		text += map[int]string{1: "needed ", 2: "digits ", 3: "oneof ", 4: "same ", 5: "sum ", 6: "marks "}[r.Kind] + r.Field
		text += map[int]string{3: " ", 4: " ", 5: " ", 6: " "}[r.Kind] + r.Other + r.Text + "\n"
	}
	return text
}
