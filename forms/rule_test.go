package forms_test

import (
	"fmt"
	"strconv"
	"strings"
	"testing"

	"flatbed/api"
	"flatbed/forms"
)

// fields has one field of each kind.
func fields(rules ...api.Rule) api.Form {
	return api.Form{
		Name: "fields", W: 20, H: 20, Dark: 1, Rules: rules,
		Fields: []api.Field{textField("text", box(0, 0, 9, 9), 0), codeField("code", box(9, 0, 9, 9)), markField("mark", box(0, 9, 1, 1), box(2, 9, 1, 1)), manyField("many", box(9, 9, 1, 1), box(11, 9, 1, 1), box(13, 9, 1, 1))},
	}
}

func TestCheckRules(t *testing.T) {
	const any, texts, both = "text code mark many", "text code", 2
	for kind, c := range map[int]struct {
		fields, rule string
		uses         int
	}{
		api.RuleNeeded: {any, "", 1}, api.RuleDigits: {texts, "", 1}, api.RuleOneOf: {texts, "a b", 1},
		api.RuleSame: {texts, "", both}, api.RuleSum: {texts, "", both}, api.RuleMarks: {"mark many", "1", 1},
	} {
		for _, field := range strings.Split(any+" none", " ") {
			for _, other := range strings.Split(any+" none  TEXT", " ") {
				for _, text := range []string{"", c.rule, "x y", "99", "100", " "} {
					names := []string{field, other}[:c.uses]
					want := api.OK
					for _, name := range names {
						if !strings.Contains(" "+any+" ", " "+name+" ") || name == "" {
							want = api.ErrNone
						}
					}
					for _, name := range names {
						if want == api.OK && !strings.Contains(" "+c.fields+" ", " "+name+" ") {
							want = api.ErrKind
						}
					}
					isText := text == ""
					switch kind {
					case api.RuleOneOf:
						isText = text != "" && text != " "
					case api.RuleMarks:
						isText = text == "1" || text == "99"
					}
					if want == api.OK && (c.uses == 1 && other != "" || !isText) {
						want = api.ErrForm
					}
					r := rule(kind, field, other, text)
					wantCheck(t, fmt.Sprint(r), fields(r), want)
				}
			}
		}
	}
}

func TestCheckRuleTexts(t *testing.T) {
	visible := ""
	for c := byte(33); c <= 126; c++ {
		visible += string([]byte{c})
	}
	for text, want := range map[string]api.Errno{
		"a": api.OK, "a b": api.OK, "~ !": api.OK, visible: api.OK, "a a a": api.OK, strings.Repeat("ab ", 500000) + "c": api.OK,
		"": api.ErrForm, " ": api.ErrForm, " a": api.ErrForm, "a ": api.ErrForm, "a  b": api.ErrForm, "a\tb": api.ErrForm, "a\n": api.ErrForm,
		"\x00": api.ErrForm, "\x7f": api.ErrForm, "\x80": api.ErrForm, "ä": api.ErrForm, "a b\xff": api.ErrForm, "\x1f": api.ErrForm, strings.Repeat(" ", 5000): api.ErrForm,
	} {
		wantCheck(t, text, fields(rule(api.RuleOneOf, "text", "", text)), want)
	}
	for n := range 100 {
		wantCheck(t, strconv.Itoa(n), fields(rule(api.RuleMarks, "many", "", strconv.Itoa(n))), api.OK)
	}
	for _, text := range []string{"", "00", "01", "100", "999", "-1", "+1", " 1", "1 ", "1.", "a", "1a", "0x1", "\xb2", "99999999999999999999", "1\n"} {
		wantCheck(t, text, fields(rule(api.RuleMarks, "many", "", text)), api.ErrForm)
	}
	for _, kind := range []int{api.RuleNeeded, api.RuleDigits} {
		for _, bad := range []api.Rule{rule(kind, "text", "", "a"), rule(kind, "text", "", " "), rule(kind, "text", "code", ""), rule(kind, "text", "text", "x")} {
			wantCheck(t, fmt.Sprint(bad), fields(bad), api.ErrForm)
		}
	}
}

// TestRule has rules alone, with what their fields have.
func TestRule(t *testing.T) {
	both := func(kind int) api.Rule { return rule(kind, "text", "code", "") }
	of := func(kind int, text string) api.Rule { return rule(kind, "text", "", text) }
	for _, c := range []struct {
		r           api.Rule
		field, code string
		broken      bool
	}{
		{of(1, ""), "", "", true}, {of(1, ""), "a", "", false}, {of(1, ""), " ", "", false}, {of(1, ""), "", "a", true},
		{of(2, ""), "", "", false}, {of(2, ""), "0", "", false}, {of(2, ""), "0123456789", "x", false}, {of(2, ""), "12a", "", true}, {of(2, ""), "1 2", "", true},
		{of(2, ""), "-1", "", true}, {of(2, ""), "/", "", true}, {of(2, ""), ":", "", true}, {of(2, ""), "\xb2", "", true}, {of(2, ""), " ", "", true},
		{of(3, "a"), "", "", false}, {of(3, "a"), "a", "", false}, {of(3, "a"), "b", "", true}, {of(3, "a b"), "a b", "", true}, {of(3, "a b c"), "b", "", false},
		{of(3, "a b c"), "a b", "", true}, {of(3, "a bc d"), "b", "", true}, {of(3, "a bc d"), "bc", "", false}, {of(3, "a bc d"), " ", "", true}, {of(3, "a"), "A", "", true},
		{of(3, "a b"), "b", "", false}, {of(3, "a b"), " b", "", true}, {of(3, "a b"), "b ", "", true},
		{both(4), "", "", false}, {both(4), "a", "a", false}, {both(4), "a", "", true}, {both(4), "", "a", true}, {both(4), "a", "A", true}, {both(4), "12", "12", false}, {both(4), "012", "12", true},
		{both(5), "", "", false}, {both(5), "", "7", false}, {both(5), "7", "", false}, {both(5), "7", "7", false}, {both(5), "12", "3", false}, {both(5), "12", "23", false},
		{both(5), "12", "32", true}, {both(5), "12", "30", true}, {both(5), "55", "0", false}, {both(5), "55", "10", false}, {both(5), "55", "5", true}, {both(5), strings.Repeat("9", 1001), "9", false},
		{both(5), "1a2", "3", true}, {both(5), "12", "a3", true}, {both(5), "12", "3a", true}, {both(5), "a", "", false}, {both(5), "", "a", false}, {both(5), "x", "x", true}, {both(5), " ", "0", true},
		{rule(5, "text", "text", ""), "0", "", false}, {rule(5, "text", "text", ""), "19", "", true}, {rule(5, "text", "text", ""), "45", "", true}, {rule(5, "text", "text", ""), "91", "", true},
		{rule(5, "text", "text", ""), "05", "", false}, {rule(5, "code", "text", ""), "5", "14", false}, {rule(5, "code", "text", ""), "4", "14", true}, {rule(5, "code", "text", ""), "5", "23", false},
		{rule(4, "text", "text", ""), "x", "", false}, {rule(1, "code", "", ""), "a", "", true}, {rule(2, "code", "", ""), "a", "1", false},
	} {
		var want []api.Broken
		if c.broken {
			want = []api.Broken{{Rule: 0, Field: c.r.Field}}
		}
		l, e := forms.Rules(fields(c.r), []api.Value{text("text", c.field), text("code", c.code)})
		wantList(t, fmt.Sprint(c), l, e, want)
		if isBroken(c.r, map[string]api.Value{"text": text("text", c.field), "code": text("code", c.code)}) != c.broken {
			t.Error("the promise says otherwise", c)
		}
	}
}

func TestRuleMarks(t *testing.T) {
	for _, c := range []struct {
		field string
		given []int
	}{{"mark", nil}, {"mark", []int{0}}, {"mark", []int{1}}, {"many", nil}, {"many", []int{2}}, {"many", []int{0, 1}}, {"many", []int{0, 1, 2}}} {
		for n := range 100 {
			r := rule(api.RuleMarks, c.field, "", strconv.Itoa(n))
			var want []api.Broken
			if n != len(c.given) {
				want = []api.Broken{{Rule: 0, Field: c.field}}
			}
			l, e := forms.Rules(fields(r), []api.Value{marks(c.field, c.given...)})
			wantList(t, fmt.Sprint(c, n), l, e, want)
		}
		var want []api.Broken
		if len(c.given) == 0 {
			want = []api.Broken{{Rule: 0, Field: c.field}}
		}
		l, e := forms.Rules(fields(rule(api.RuleNeeded, c.field, "", "")), []api.Value{marks(c.field, c.given...)})
		wantList(t, fmt.Sprint(c), l, e, want)
	}
}

// TestRules has several rules, and fields that are needed, with values in any order.
func TestRules(t *testing.T) {
	f := order()
	for i, c := range []struct {
		values []api.Value
		want   []api.Broken
	}{
		{nil, []api.Broken{{Rule: 1, Field: "paid"}, {Rule: 5, Field: "sku"}, {Rule: 6, Field: "number"}, {Rule: 9, Field: "ways"}, {Rule: 11, Field: "other-sku"}}},
		{[]api.Value{text("again", "12"), marks("ways", 0), text("sku", "x"), marks("paid", 0), text("number", "12"), text("other-sku", " ")}, []api.Broken{{Rule: 4, Field: "number"}}},
		{[]api.Value{text("number", "3x"), marks("ways", 1)}, []api.Broken{
			{Rule: 0, Field: "number"}, {Rule: 1, Field: "paid"}, {Rule: 2, Field: "number"}, {Rule: 3, Field: "again"}, {Rule: 5, Field: "sku"}, {Rule: 11, Field: "other-sku"}}},
		{[]api.Value{text("number", "1"), text("again", "1"), marks("paid", 1), marks("ways", 0, 1, 2), text("sku", "?"), text("other-sku", "\x00")}, nil},
	} {
		l, e := forms.Rules(f, c.values)
		wantList(t, strconv.Itoa(i), l, e, c.want)
		wantList(t, strconv.Itoa(i), l, e, rulesByPromise(f, c.values))
	}
	for _, f := range goodForms() {
		l, e := forms.Rules(f, nil)
		wantList(t, f.Name, l, e, rulesByPromise(f, nil))
	}
	// A field that is needed is as a rule behind all.
	for _, l := range manyValues() {
		f, g := order(), order()
		for i := range f.Fields {
			f.Fields[i].Needed, g.Fields[i].Needed = false, true
			f.Rules = append(f.Rules, rule(api.RuleNeeded, f.Fields[i].Name, "", ""))
		}
		a, e := forms.Rules(f, l)
		b, d := forms.Rules(g, l)
		wantList(t, "needed", a, e, b)
		wantList(t, "needed", b, d, rulesByPromise(g, l))
	}
}

// TestRulesMixed has rules and values of all kinds.
func TestRulesMixed(t *testing.T) {
	texts := []string{"", "1", "12", "21", "3", "0", "1 2", "x", "102", "2"}
	var broken, kept int
	for seed := range 2000 {
		pick := func(i, n int) int { return number(seed, i) % n }
		f := fields()
		for i := range 1 + pick(0, 12) {
			r := rule(1+pick(4*i, 6), []string{"text", "code"}[pick(4*i+1, 2)], "", "")
			switch r.Kind {
			case api.RuleOneOf:
				r.Text = []string{"1", "1 2 3", "x 12", "0 21 102"}[pick(4*i+2, 4)]
			case api.RuleSame, api.RuleSum:
				r.Other = []string{"text", "code"}[pick(4*i+2, 2)]
			case api.RuleMarks:
				r.Field, r.Text = []string{"mark", "many"}[pick(4*i+1, 2)], strconv.Itoa(pick(4*i+2, 4))
			case api.RuleNeeded:
				r.Field = []string{"text", "code", "mark", "many"}[pick(4*i+1, 4)]
			}
			f.Rules = append(f.Rules, r)
		}
		for i := range f.Fields {
			f.Fields[i].Needed = pick(100+i, 3) == 0
		}
		l := []api.Value{text("code", texts[pick(200, 10)]), text("text", texts[pick(201, 10)]), marks("mark", [][]int{nil, {0}, {1}}[pick(202, 3)]...), marks("many", [][]int{nil, {2}, {0, 1}, {0, 1, 2}}[pick(203, 4)]...)}
		l = l[pick(204, 4):]
		for i := range l {
			l[i].Sure = []int{0, 1000, -7, mostInt, leastInt}[pick(205+i, 5)]
		}
		want := rulesByPromise(f, l)
		got, e := forms.Rules(f, l)
		wantList(t, fmt.Sprint(seed, f.Rules, l), got, e, want)
		broken += len(want)
		kept += len(f.Rules) - len(want)
	}
	if broken < 1000 || kept < 1000 {
		t.Error("not enough of both", broken, kept)
	}
}

// TestRulesErrors has values that are bad otherwise than by Sure or by texts that cannot be drawn.
func TestRulesErrors(t *testing.T) {
	var bad []badValue
	for _, c := range badValues() {
		if c.v.Sure == 0 || c.want != api.ErrForm {
			bad = append(bad, c)
		}
	}
	for _, first := range bad {
		for _, second := range bad {
			for _, sure := range []int{0, 1000, -1, mostInt, leastInt} {
				l := []api.Value{{Field: "paid", Marks: []int{1}, Sure: sure}, first.v, text("again", "1"), second.v}
				l[1].Sure = sure
				got, e := forms.Rules(order(), l)
				failList(t, fmt.Sprint(l), got, e, first.want)
			}
		}
		for _, flaw := range flawsInOrder() {
			f := order()
			flaw.spoil(&f)
			got, e := forms.Rules(f, []api.Value{first.v})
			failList(t, flaw.what, got, e, flaw.want)
		}
	}
	for _, c := range badTexts() {
		l := []api.Value{c.v}
		got, e := forms.Rules(order(), l)
		wantList(t, fmt.Sprint(l), got, e, rulesByPromise(order(), l))
	}
	got, e := forms.Rules(order(), []api.Value{marks("paid", 0, 1)})
	failList(t, "too many marks", got, e, api.ErrForm)
}
