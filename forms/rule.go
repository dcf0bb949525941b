package forms

import (
	"strings"

	"flatbed/api"
	"flatbed/glyph"
	"flatbed/page"
)

const maxCountDigits = 2

// A law is a kind of rule: for which kinds of fields it is, what it uses, and what it says. text tells which texts the rule
// can have; without it, the rule has none.
type law struct {
	isFor     func(kind int) bool
	usesOther bool
	text      func(text string) bool
	holds     func(r api.Rule, value, other api.Value) bool
}

func lawsByKind() map[int]law {
	isAny := func(kind int) bool { return true }
	return map[int]law{
		api.RuleNeeded: {isFor: isAny, holds: func(_ api.Rule, v, _ api.Value) bool { return !isEmpty(v) }},
		api.RuleDigits: {isFor: hasText, holds: func(_ api.Rule, v, _ api.Value) bool { return areDigits(v.Text) }},
		api.RuleOneOf:  {isFor: hasText, text: areWords, holds: isOneOf},
		api.RuleSame:   {isFor: hasText, usesOther: true, holds: func(_ api.Rule, v, o api.Value) bool { return v.Text == o.Text }},
		api.RuleSum:    {isFor: hasText, usesOther: true, holds: isSum},
		api.RuleMarks:  {isFor: hasMarks, text: isCount, holds: isAsMany},
	}
}

func isEmpty(v api.Value) bool { return v.Text == "" && len(v.Marks) == 0 }

func isOneOf(r api.Rule, v, _ api.Value) bool {
	if v.Text == "" {
		return true
	}
	for word := range strings.SplitSeq(r.Text, space) {
		if word == v.Text {
			return true
		}
	}
	return false
}

func isSum(_ api.Rule, v, o api.Value) bool {
	if v.Text == "" || o.Text == "" {
		return true
	}
	if !areDigits(v.Text) || !areDigits(o.Text) {
		return false
	}
	sum := 0
	for i := range len(v.Text) {
		sum += int(v.Text[i] - '0')
	}
	return sum%10 == int(o.Text[len(o.Text)-1]-'0')
}

func isAsMany(r api.Rule, v, _ api.Value) bool {
	count, ok := page.Number(r.Text, maxCountDigits)
	return ok && len(v.Marks) == count
}

// areWords wants visible words with single spaces between.
func areWords(text string) bool {
	for word := range strings.SplitSeq(text, space) {
		if !glyph.IsVisible(word) {
			return false
		}
	}
	return true
}

func isCount(text string) bool {
	_, ok := page.Number(text, maxCountDigits)
	return ok
}

// checkRules leaves all else of the form to the other checks.
func checkRules(f api.Form) api.Errno {
	if len(f.Rules) > api.MaxRules {
		return api.ErrLarge
	}
	kinds := map[string]int{}
	for _, field := range f.Fields {
		kinds[field.Name] = field.Kind
	}
	laws := lawsByKind()
	for _, r := range f.Rules {
		l, ok := laws[r.Kind]
		if !ok {
			return api.ErrKind
		}
		if e := l.check(r, kinds); e != api.OK {
			return e
		}
	}
	return api.OK
}

// check returns what is wrong with a rule of this kind, by the kinds of the fields that there are.
func (l law) check(r api.Rule, kinds map[string]int) api.Errno {
	names := []string{r.Field}
	if l.usesOther {
		names = append(names, r.Other)
	}
	for _, name := range names {
		if _, ok := kinds[name]; !ok {
			return api.ErrNone
		}
	}
	for _, name := range names {
		if !l.isFor(kinds[name]) {
			return api.ErrKind
		}
	}
	if !l.usesOther && r.Other != "" {
		return api.ErrForm
	}
	if l.text == nil && r.Text != "" || l.text != nil && !l.text(r.Text) {
		return api.ErrForm
	}
	return api.OK
}

// Rules returns the rules that values break; behind those of the form stand those of the fields that are needed.
func Rules(f api.Form, values []api.Value) ([]api.Broken, api.Errno) {
	if e := Check(f); e != api.OK {
		return nil, e
	}
	given, e := valuesByField(f, values)
	if e != api.OK {
		return nil, e
	}
	laws := lawsByKind()
	var broken []api.Broken
	for i, r := range f.Rules {
		if !laws[r.Kind].holds(r, given[r.Field], given[r.Other]) {
			broken = append(broken, api.Broken{Rule: i, Field: r.Field})
		}
	}
	for i, field := range f.Fields {
		if field.Needed && isEmpty(given[field.Name]) {
			broken = append(broken, api.Broken{Rule: len(f.Rules) + i, Field: field.Name})
		}
	}
	return broken, api.OK
}

// valuesByField leaves out how sure the values are, so that it can be any number. A field without a value is empty.
func valuesByField(f api.Form, values []api.Value) (map[string]api.Value, api.Errno) {
	given := map[string]api.Value{}
	check := valueChecker(f)
	for _, v := range values {
		v.Sure = 0
		if _, e := check(v); e != api.OK {
			return nil, e
		}
		given[v.Field] = v
	}
	return given, api.OK
}
