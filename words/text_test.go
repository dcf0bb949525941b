package words_test

import (
	"strings"
	"testing"

	"flatbed/api"
	"flatbed/words"
)

func TestSplit(t *testing.T) {
	w := func(text string) api.Token { return api.Token{Text: text, Word: true} }
	o := func(text string) api.Token { return api.Token{Text: text} }
	a40, a41 := strings.Repeat("a", 40), strings.Repeat("a", 41)
	for text, want := range map[string][]api.Token{
		"": nil, "a": {w("a")}, " ": {o(" ")}, "'": {o("'")}, "''": {o("''")}, "1": {o("1")}, "\n\n": {o("\n\n")},
		"It's 'so'-1":   {w("It's"), o(" '"), w("so"), o("'-1")},
		"the cat":       {w("the"), o(" "), w("cat")},
		" the, cat. ":   {o(" "), w("the"), o(", "), w("cat"), o(". ")},
		"a1b":           {w("a"), o("1"), w("b")},
		"a-b_c":         {w("a"), o("-"), w("b"), o("_"), w("c")},
		"''a''b''":      {o("''"), w("a''b"), o("''")},
		"a '' b":        {w("a"), o(" '' "), w("b")},
		"'a' 'b'":       {o("'"), w("a"), o("' '"), w("b"), o("'")},
		"a'1'b":         {w("a"), o("'1'"), w("b")},
		"\xc3\xa4 \xff": {w("\xc3\xa4"), o(" "), w("\xff")},
		"a\x7fb\x80":    {w("a"), o("\x7f"), w("b\x80")},
		"@A[`a{Z":       {o("@"), w("A"), o("[`"), w("a"), o("{"), w("Z")},
		"x\x00y\tz\n":   {w("x"), o("\x00"), w("y"), o("\t"), w("z"), o("\n")},
		// Too long for a word: it belongs to what stands between.
		a40: {w(a40)}, a41: {o(a41)}, "'" + a40 + "'": {o("'"), w(a40), o("'")}, "'" + a41 + "'": {o("'" + a41 + "'")},
		"x " + a41 + " y":           {w("x"), o(" " + a41 + " "), w("y")},
		a41 + " " + a41:             {o(a41 + " " + a41)},
		a40 + "'a":                  {o(a40 + "'a")},
		a40 + " a":                  {w(a40), o(" "), w("a")},
		"x,''" + a41 + "'' " + a40:  {w("x"), o(",''" + a41 + "'' "), w(a40)},
		"a" + a40[:20] + "'" + a40:  {o("a" + a40[:20] + "'" + a40)},
		a40[:19] + "''" + a40[:19]:  {w(a40[:19] + "''" + a40[:19])},
		"'''" + a40[:39] + "''''-b": {o("'''"), w(a40[:39]), o("''''-"), w("b")},
	} {
		wantList(t, text, words.Split(text), api.OK, want)
	}
}

// splitByPromise tries each stretch of letters and apostrophes, from the left.
func splitByPromise(text string) []api.Token {
	var l []api.Token
	between := ""
	for text != "" {
		n := 0
		for n < len(text) && (isLetter(text[n]) || text[n] == '\'') {
			n++
		}
		for n > 0 && text[n-1] == '\'' {
			n--
		}
		switch {
		case !isLetter(text[0]):
			between += text[:1]
			text = text[1:]
		case n > 40:
			between += text[:n]
			text = text[n:]
		default:
			if between != "" {
				l = append(l, api.Token{Text: between})
			}
			l = append(l, api.Token{Text: text[:n], Word: true})
			between, text = "", text[n:]
		}
	}
	if between != "" {
		l = append(l, api.Token{Text: between})
	}
	return l
}

func TestSplitByPromise(t *testing.T) {
	for seed := range 400 {
		text := mixedText(seed, number(seed, 1), []string{"a' ", "aZ\x80\xff'", "aaaaaaaaaaaaaaaaaaaaaaaaaaaaaab'1", "\x00\x7f\x80`{@[az'"}[seed%4])
		wantList(t, text, words.Split(text), api.OK, splitByPromise(text))
	}
}

func fix(at int, old, fresh string) api.Fix { return api.Fix{At: at, Old: old, New: fresh} }

func TestCorrect(t *testing.T) {
	some := []api.Mix{mix("rn", "m", 10), mix("l", "i", 20), mix("h", "li", 30)}
	d := dict(t, word("corn", 5), word("come", 50), word("modern", 3), word("file", 9), word("fill", 9), word("Paris", 4), word("i", 1),
		word("\xe4bc", 1), word("it's", 1), word("Moden", 1), word("like", 7))
	for _, c := range []struct {
		text string
		most int
		want string
		l    []api.Fix
	}{
		{"", 100, "", nil}, {" 1-2' ", 100, " 1-2' ", nil}, {"corn come", 10000, "corn come", nil},
		// What the dictionary has, as it is or with small letters, stays.
		{"Corn COME cOmE i I It's", 10000, "Corn COME cOmE i I It's", nil}, {"Paris", 10000, "Paris", nil},
		{"com", 9, "com", nil}, {"com", 10, "corn", []api.Fix{fix(0, "com", "corn")}}, {"modem, com!", 50, "modern, corn!", []api.Fix{fix(0, "modem", "modern"), fix(7, "com", "corn")}},
		{"fiie filx", 100, "file filx", []api.Fix{fix(0, "fiie", "file")}}, {"xyz hke", 50, "xyz like", []api.Fix{fix(4, "hke", "like")}},
		// Great letters are tried as they are first.
		{"Parls", 20, "Paris", []api.Fix{fix(0, "Parls", "Paris")}}, {"Modem", 100, "Moden", []api.Fix{fix(0, "Modem", "Moden")}},
		{"Modem", 50, "Modern", []api.Fix{fix(0, "Modem", "Modern")}}, {"MODEM", 50, "MODERN", []api.Fix{fix(0, "MODEM", "MODERN")}},
		{"moDeM", 50, "modern", []api.Fix{fix(0, "moDeM", "modern")}}, {"MoDeM", 50, "Modern", []api.Fix{fix(0, "MoDeM", "Modern")}},
		{"mODEM", 50, "modern", []api.Fix{fix(0, "mODEM", "modern")}}, {"MODEm", 50, "Modern", []api.Fix{fix(0, "MODEm", "Modern")}},
		// One great letter is not all of them; apostrophes and other bytes do not count.
		{"L", 20, "I", []api.Fix{fix(0, "L", "I")}}, {"LT'S", 20, "IT'S", []api.Fix{fix(0, "LT'S", "IT'S")}}, {"Lt's", 20, "It's", []api.Fix{fix(0, "Lt's", "It's")}},
		{"\xe4Bx", 100, "\xe4bc", []api.Fix{fix(0, "\xe4Bx", "\xe4bc")}}, {"\xe4B", 100, "\xe4bc", []api.Fix{fix(0, "\xe4B", "\xe4bc")}},
		{"\xe4BX", 100, "\xe4BC", []api.Fix{fix(0, "\xe4BX", "\xe4BC")}}, {"Abc", 100, "\xe4bc", []api.Fix{fix(0, "Abc", "\xe4bc")}},
		{"ABC", 100, "\xe4BC", []api.Fix{fix(0, "ABC", "\xe4BC")}}, {"HKE Hke", 50, "LIKE Like", []api.Fix{fix(0, "HKE", "LIKE"), fix(4, "Hke", "Like")}},
		// What comes out as it was is no fix.
		{"PARIS", 100, "PARIS", nil}, {"PARIS com", 100, "PARIS corn", []api.Fix{fix(6, "com", "corn")}}, {"pARIS", 100, "Paris", []api.Fix{fix(0, "pARIS", "Paris")}},
		// Places are those of the text as it was; all else stays.
		{"com 'com' com", 10, "corn 'corn' corn", []api.Fix{fix(0, "com", "corn"), fix(5, "com", "corn"), fix(10, "com", "corn")}},
		{"\tcorn\x00com\n\n1 Com-COM", 10, "\tcorn\x00corn\n\n1 Corn-CORN", []api.Fix{fix(6, "com", "corn"), fix(13, "Com", "Corn"), fix(17, "COM", "CORN")}},
		{"com's co", 10, "com's co", nil}, {strings.Repeat("m", 41) + " com", 10, strings.Repeat("m", 41) + " corn", []api.Fix{fix(42, "com", "corn")}},
	} {
		text, l, e := words.Correct(c.text, d, some, c.most)
		wantText(t, c.text, text, e, c.want)
		wantList(t, c.text, l, e, c.l)
	}
	text, l, e := words.Correct("com l", dict(t), some, 10000)
	wantText(t, "an empty dictionary", text, e, "com l")
	wantList(t, "an empty dictionary", l, e, nil)
}

// fixByPromise is what becomes of a word.
func fixByPromise(text string, d *words.Dict, l []api.Mix, most int) string {
	if d.Has(text) || d.Has(small(text)) {
		return text
	}
	if best, _, e := d.Best(text, l, most); e == api.OK {
		return best
	}
	best, _, e := d.Best(small(text), l, most)
	if small(text) == text || e != api.OK {
		return text
	}
	letters := 0
	for i := range len(text) {
		if isLetter(text[i]) && text[i] < 128 {
			letters++
		}
	}
	switch {
	case letters > 1 && great(text) == text:
		return great(best)
	case text[0] >= 'A' && text[0] <= 'Z':
		return great(best[:1]) + best[1:]
	}
	return best
}

func TestCorrectByPromise(t *testing.T) {
	for seed := range 200 {
		bytes := []string{"ab", "aAbB", "abcABC\xe4'", "aeiouAEIOU"}[seed%4]
		d, _ := mixedDict(t, seed, 12, 5, strings.ReplaceAll(bytes, "'", "x"))
		mixes := mixedMixes(seed, seed%5, bytes)
		text := mixedText(seed+1, 120, bytes+"  -")
		for _, most := range []int{0, 20, 100, 200, 10000} {
			want := ""
			var fixes []api.Fix
			at := 0
			for _, token := range splitByPromise(text) {
				fresh := token.Text
				if token.Word {
					fresh = fixByPromise(token.Text, d, mixes, most)
				}
				if fresh != token.Text {
					fixes = append(fixes, fix(at, token.Text, fresh))
				}
				want += fresh
				at += len(token.Text)
			}
			got, l, e := words.Correct(text, d, mixes, most)
			wantText(t, text, got, e, want)
			wantList(t, text, l, e, fixes)
		}
	}
}

// TestCorrectMisread has texts of words of a dictionary, which stay, and are corrected where one was misread by a mix.
func TestCorrectMisread(t *testing.T) {
	mixes := []api.Mix{mix("rn", "m", 10), mix("cl", "d", 15), mix("li", "h", 12)}
	d := plainDict(t, "modern", "clinic", "corner", "liquid", "Berlin", "the", "\xc3\xa4rnlich")
	const text = "the Modern clinic: 'corner' LIQUID, Berlin. \xc3\xa4rnlich"
	for _, most := range []int{0, 30, 10000} {
		got, l, e := words.Correct(text, d, mixes, most)
		wantText(t, text, got, e, text)
		wantList(t, text, l, e, nil)
	}
	got, l, e := words.Correct("the Modem dinic: 'comer' LIQUID, Berhn. \xc3\xa4mlich", d, mixes, 30)
	wantText(t, text, got, e, text)
	wantList(t, text, l, e, []api.Fix{fix(4, "Modem", "Modern"), fix(10, "dinic", "clinic"), fix(18, "comer", "corner"), fix(33, "Berhn", "Berlin"), fix(40, "\xc3\xa4mlich", "\xc3\xa4rnlich")})
}

func TestCorrectErrors(t *testing.T) {
	d := dict(t, word("corn", 5))
	long := strings.Repeat("a", maxText+1)
	fail := func(what, text string, d *words.Dict, l []api.Mix, most int, want api.Errno) {
		t.Helper()
		got, fixes, e := words.Correct(text, d, l, most)
		failText(t, what, got, e, want)
		failList(t, what, fixes, e, want)
	}
	for _, bad := range append(eachBadMixes(), badMixes{}) {
		for _, most := range []int{0, -1, 10001} {
			for _, text := range []string{"", "com", long} {
				fail("no dictionary", text, nil, bad.l, most, api.ErrForm)
			}
			fail("a long text", long, d, bad.l, most, api.ErrLarge)
		}
	}
	for _, text := range []string{"", "1", "corn", "com", "com corn", long[1:]} {
		for _, most := range append(wrongNumbers(0, 10000), 0, 10000) {
			for _, bad := range eachBadMixes() {
				fail("mixes", text, d, bad.l, most, bad.want)
			}
		}
		for _, most := range wrongNumbers(0, 10000) {
			fail("most", text, d, nil, most, api.ErrRange)
			fail("most", text, dict(t), manyMixes(200), most, api.ErrRange)
		}
	}
}
