package words_test

import (
	"slices"
	"strings"
	"testing"

	"flatbed/api"
	"flatbed/words"
)

func TestJoinLines(t *testing.T) {
	d := plainDict(t, "modern", "file", "corn", "Berlin", "it's", "co", "op", "coop", "xy'z", "internationa", strings.Repeat("b", 40))
	b30 := strings.Repeat("b", 30)
	for _, c := range []struct {
		lines []string
		want  string
	}{
		{nil, ""}, {[]string{""}, ""}, {[]string{"", " ", "\t"}, ""}, {[]string{"a"}, "a"}, {[]string{"a b", "c", "d e"}, "a b c d e"},
		// Empty lines.
		{[]string{"a", "", "b"}, "a\nb"}, {[]string{"a", "", " ", "\t \t", "b"}, "a\nb"}, {[]string{"", " ", "a", "", "b", "", "c", " ", ""}, "a\nb\nc"},
		{[]string{"", "a"}, "a"}, {[]string{"a", ""}, "a"}, {[]string{"a", "b", "", "c", "d"}, "a b\nc d"},
		// Blanks at the ends of lines; other bytes stay.
		{[]string{" a ", "\tb\t ", "c"}, "a b c"}, {[]string{"a  b", "c\td"}, "a  b c\td"}, {[]string{"a\r", "\vb", "\x00", "\xa0"}, "a\r \vb \x00 \xa0"},
		{[]string{"mod- ", " ern"}, "modern"}, {[]string{"mod-\t", "\tern"}, "modern"}, {[]string{"mod -", "ern"}, "mod - ern"},
		// Hyphens.
		{[]string{"the mod-", "ern file-", "corn and x-", "y ", "", " ", "end"}, "the modern file-corn and xy\nend"},
		{[]string{"mod-", "ern"}, "modern"}, {[]string{"Mod-", "ern"}, "Modern"}, {[]string{"MOD-", "ERN"}, "MODERN"}, {[]string{"ber-", "lin"}, "berlin"},
		{[]string{"Ber-", "lin"}, "Berlin"}, {[]string{"mod-", "ern."}, "modern."}, {[]string{"(mod-", "ern's"}, "(modern's"},
		// The word of both counts more than its parts.
		{[]string{"co-", "op"}, "coop"}, {[]string{"CO-", "OP"}, "COOP"}, {[]string{"op-", "co"}, "op-co"}, {[]string{"file-", "zzz"}, "file-zzz"}, {[]string{"zzz-", "file"}, "zzz-file"},
		{[]string{"File-", "zzz"}, "File-zzz"}, {[]string{"zzz-", "FILE"}, "zzz-FILE"}, {[]string{"zzz-", "yyy"}, "zzzyyy"}, {[]string{"berlin-", "zzz"}, "berlinzzz"},
		{[]string{"Berlin-", "zzz"}, "Berlin-zzz"}, {[]string{"zzz-", "files"}, "zzzfiles"}, {[]string{"zzz-", "file s"}, "zzz-file s"}, {[]string{"zzz-", "file1"}, "zzz-file1"},
		{[]string{"1file-", "zzz"}, "1file-zzz"}, {[]string{"afile-", "zzz"}, "afilezzz"}, {[]string{"file-zz-", "zzz"}, "file-zzzzz"},
		// Apostrophes belong to words, but not at their ends.
		{[]string{"xy-", "'z"}, "xy- 'z"}, {[]string{"xy'-", "z"}, "xy'- z"}, {[]string{"x-", "y'z"}, "xy'z"}, {[]string{"xy-", "z"}, "xyz"}, {[]string{"'file-", "zzz"}, "'file-zzz"},
		{[]string{"zzz-", "file'"}, "zzz-file'"}, {[]string{"zzz-", "file''-"}, "zzz-file''-"}, {[]string{"zzz-", "file's"}, "zzzfile's"}, {[]string{"''mod-", "ern'''"}, "''modern'''"},
		{[]string{"a'file-", "zzz"}, "a'filezzz"}, {[]string{"it's-", "zzz"}, "it's-zzz"},
		// No letter at one side: nothing is joined.
		{[]string{"-", "a"}, "- a"}, {[]string{"a --", "b"}, "a -- b"}, {[]string{"a--", "b"}, "a-- b"}, {[]string{"1-", "b"}, "1- b"}, {[]string{"a-", "1"}, "a- 1"},
		{[]string{"a-", "-b"}, "a- -b"}, {[]string{"mod", "-ern"}, "mod -ern"}, {[]string{"mod", "-", "ern"}, "mod - ern"}, {[]string{"mod- x", "ern"}, "mod- x ern"},
		{[]string{"a-", ""}, "a-"}, {[]string{"mod-", "", "ern"}, "mod-\nern"}, {[]string{"mod-", " \t", "", "ern-", "b"}, "mod-\nernb"}, {[]string{"a-"}, "a-"}, {[]string{"a-", "b-"}, "ab-"},
		{[]string{"a\x00-", "b"}, "a\x00- b"}, {[]string{"\xc3\xa4-", "\xff"}, "\xc3\xa4\xff"}, {[]string{"@-", "a"}, "@- a"}, {[]string{"a-", "["}, "a- ["},
		// The word ahead of the hyphen is that of the text so far.
		{[]string{"m-", "o-", "d-", "ern"}, "modern"}, {[]string{"fi-", "le-", "zzz"}, "file-zzz"}, {[]string{"file-", "mod-", "ern"}, "file-modern"},
		{[]string{"mod-", "ern-", "file"}, "modern-file"}, {[]string{"fi-", "l-", "e", "x-", "y"}, "file xy"}, {[]string{"le", "fi-", "le-", "x"}, "le file-x"},
		{[]string{"in-", "ter-", "na-", "tio-", "na-", "l"}, "internationa-l"}, {[]string{"f-", "i-", "le's"}, "file's"}, {[]string{"fi-", "le-", "", "zzz-", "yyy"}, "file-\nzzzyyy"},
		// What is too long for a word is none, by itself and with the other part.
		{[]string{b30 + "-", b30[:10]}, b30 + b30[:10]}, {[]string{b30 + b30 + "-", "zzz"}, b30 + b30 + "zzz"}, {[]string{b30 + b30 + "-", "file"}, b30 + b30 + "-file"},
		{[]string{"zzz-", b30 + b30}, "zzz" + b30 + b30}, {[]string{"file-", b30 + b30}, "file-" + b30 + b30}, {[]string{b30 + b30[:10] + "-", "zzz"}, b30 + b30[:10] + "-zzz"},
		{[]string{b30 + b30[:11] + "-", "zzz"}, b30 + b30[:11] + "zzz"}, {[]string{"zzz-", b30 + b30[:10]}, "zzz-" + b30 + b30[:10]}, {[]string{"zzz-", b30 + b30[:11]}, "zzz" + b30 + b30[:11]},
		{[]string{strings.Repeat("'", 60) + "file-", "zzz"}, strings.Repeat("'", 60) + "file-zzz"}, {[]string{"zzz-", "file" + strings.Repeat("'", 60)}, "zzz-file" + strings.Repeat("'", 60)},
		{[]string{"a" + strings.Repeat("'", 60) + "file-", "zzz"}, "a" + strings.Repeat("'", 60) + "filezzz"},
		{[]string{strings.Repeat("'", 60) + "mod-", "ern" + strings.Repeat("'", 60)}, strings.Repeat("'", 60) + "modern" + strings.Repeat("'", 60)},
	} {
		text, e := words.JoinLines(c.lines, d)
		wantText(t, strings.Join(c.lines, "|"), text, e, c.want)
	}
	text, e := words.JoinLines([]string{"the mod-", "ern"}, dict(t))
	wantText(t, "an empty dictionary", text, e, "the modern")
}

// joinByPromise looks for the words anew at each hyphen.
func joinByPromise(lines []string, d *words.Dict) string {
	has := func(word string) bool { return len(word) <= 40 && (d.Has(word) || d.Has(small(word))) }
	text, empty := "", false
	for _, line := range lines {
		line = strings.Trim(line, " \t")
		if line == "" {
			empty = text != ""
			continue
		}
		last := len(text) - 1
		switch {
		case text == "":
		case empty:
			text += "\n"
		case last < 1 || text[last] != '-' || !isLetter(text[last-1]) || !isLetter(line[0]):
			text += " "
		default:
			ahead := splitByPromise(text[:last])
			first, second := ahead[len(ahead)-1], splitByPromise(line)[0]
			one := first.Word && second.Word && has(first.Text+second.Text)
			if one || !(first.Word && has(first.Text)) && !(second.Word && has(second.Text)) {
				text = text[:last]
			}
		}
		empty = false
		text += line
	}
	return text
}

func TestJoinLinesByPromise(t *testing.T) {
	for seed := range 1500 {
		bytes := []string{"a-", "ab-'", "aAb-' \t", "abcdef-' ", "a'-1", "aaaaaaaaaaab-"}[seed%6]
		d, _ := mixedDict(t, seed, 3, 3, strings.NewReplacer("-", "a", "'", "b", " ", "c", "\t", "A", "1", "b").Replace(bytes))
		var lines []string
		for i := range number(seed, 0) % 30 {
			line := mixedText(seed+i, number(seed, i)%7, bytes)
			if number(i, seed) < 150 && strings.Trim(line, " \t") != "" {
				line += "-"
			}
			lines = append(lines, line)
		}
		text, e := words.JoinLines(lines, d)
		wantText(t, strings.Join(lines, "|"), text, e, joinByPromise(lines, d))
	}
}

func TestJoinLinesErrors(t *testing.T) {
	d := dict(t)
	feed := []string{"a", "b\n", "c"}
	long := append(slices.Repeat([]string{strings.Repeat(" ", 1024)}, 1024), "\n")
	for _, lines := range [][]string{nil, {"a"}, feed, long, make([]string, 10001)} {
		text, e := words.JoinLines(lines, nil)
		failText(t, "no dictionary", text, e, api.ErrForm)
	}
	for _, lines := range [][]string{make([]string, 10001), append(make([]string, 10000), "\n"), long, append(slices.Clone(feed), long...), {strings.Repeat("a", maxText+1)}} {
		text, e := words.JoinLines(lines, d)
		failText(t, "too large", text, e, api.ErrLarge)
	}
	for _, lines := range [][]string{feed, {"\n"}, {"a", "", "\n"}, {" \n "}, {"a\nb"}, append(make([]string, 9999), "\n"), long[1:]} {
		text, e := words.JoinLines(lines, d)
		failText(t, "a line feed", text, e, api.ErrForm)
	}
}

func TestParagraphs(t *testing.T) {
	far := api.MaxPlace
	line := func(x, y int) api.Box { return api.Box{X: x, Y: y, W: 90, H: 10} }
	for _, c := range []struct {
		name        string
		l           []api.Box
		indent, gap int
		want        [][]int
	}{
		{"none", nil, 0, 0, nil}, {"none", []api.Box{}, far, far, nil}, {"one", []api.Box{line(5, 5)}, 0, 0, [][]int{{0}}}, {"one", []api.Box{line(5, 5)}, far, far, [][]int{{0}}},
		{"both", []api.Box{line(10, 0), line(0, 12), line(0, 40), line(10, 52)}, 5, 10, [][]int{{0, 1}, {2}, {3}}},
		{"just indented", []api.Box{line(0, 0), line(5, 10), line(4, 20), line(6, 30), line(0, 40)}, 5, 0, [][]int{{0}, {1, 2}, {3, 4}}},
		{"not indented", []api.Box{line(0, 0), line(5, 10), line(4, 20), line(6, 30), line(0, 40)}, 7, 0, [][]int{{0, 1, 2, 3, 4}}},
		{"indent 0", []api.Box{line(0, 0), line(1, 10), line(0, 20)}, 0, far, [][]int{{0}, {1}, {2}}},
		{"indent 1", []api.Box{line(-3, 0), line(-2, 10), line(-3, 20)}, 1, far, [][]int{{0}, {1, 2}}},
		{"the least X comes last", []api.Box{line(9, 0), line(9, 10), line(2, 20)}, 7, far, [][]int{{0}, {1, 2}}},
		{"just a gap", []api.Box{line(0, 0), line(0, 14), line(0, 27), line(0, 41)}, 1, 3, [][]int{{0}, {1, 2}, {3}}},
		{"no gap", []api.Box{line(0, 0), line(0, 14), line(0, 27), line(0, 41)}, 1, 4, [][]int{{0, 1, 2, 3}}},
		{"gap 0", []api.Box{line(0, 0), line(0, 10), line(0, 21), line(0, 25)}, 1, 0, [][]int{{0, 1}, {2, 3}}},
		{"upwards", []api.Box{line(0, 50), line(0, 0), line(0, 11)}, 1, 0, [][]int{{0, 1}, {2}}},
		{"high lines", []api.Box{{W: 1, H: 40}, {Y: 45, W: 1, H: 1}, {Y: 50, W: 1, H: 1}}, 1, 4, [][]int{{0}, {1, 2}}},
		{"the ends of all", []api.Box{{X: far, Y: far, W: far, H: far}, {X: -far, Y: -far, W: 1, H: 1}, {X: -far, Y: far, W: 1, H: 1}, {X: 0, Y: far, W: 1, H: 1}}, far, far, [][]int{{0, 1}, {2}, {3}}},
	} {
		l, e := words.Paragraphs(c.l, c.indent, c.gap)
		if e != api.OK || !slices.EqualFunc(l, c.want, slices.Equal) {
			t.Error(c.name, l, e, c.want)
		}
	}
}

func TestParagraphsByPromise(t *testing.T) {
	for seed := range 300 {
		var l []api.Box
		least := mostInt
		for i := range number(seed, 1) % 20 {
			b := api.Box{X: number(seed, 3*i)%4 - 2, Y: number(seed, 3*i+1)%60 - 30, W: 1 + i%3, H: 1 + number(seed, 3*i+2)%20}
			l = append(l, b)
			least = min(least, b.X)
		}
		for indent := range 5 {
			for _, gap := range []int{0, 1, 5, 20, 100} {
				var want [][]int
				for i, b := range l {
					if i == 0 || b.X >= least+indent || b.Y > l[i-1].Y+l[i-1].H+gap {
						want = append(want, nil)
					}
					want[len(want)-1] = append(want[len(want)-1], i)
				}
				got, e := words.Paragraphs(l, indent, gap)
				if e != api.OK || !slices.EqualFunc(got, want, slices.Equal) {
					t.Error(l, indent, gap, got, e, want)
				}
			}
		}
	}
}

func TestParagraphsErrors(t *testing.T) {
	good := api.Box{W: 1, H: 1}
	far := api.MaxPlace
	many := slices.Repeat([]api.Box{{}}, 5001)
	for _, n := range append(wrongNumbers(0, far), 0, far) {
		l, e := words.Paragraphs(many, n, n)
		failList(t, "too many", l, e, api.ErrLarge)
		for _, bad := range []api.Box{{}, {W: 1}, {H: 1}, {W: -1, H: 1}, {W: 1, H: leastInt}, {X: -far - 1, W: 1, H: 1}, {X: far + 1, W: 1, H: 1}, {Y: -far - 1, W: 1, H: 1},
			{Y: mostInt, W: 1, H: 1}, {W: far + 1, H: 1}, {W: 1, H: far + 1}, {X: leastInt, Y: leastInt, W: mostInt, H: mostInt}} {
			l, e := words.Paragraphs([]api.Box{good, bad, good}, n, 0)
			failList(t, "a bad box", l, e, api.ErrRange)
			l, e = words.Paragraphs([]api.Box{bad}, 0, n)
			failList(t, "a bad box", l, e, api.ErrRange)
		}
	}
	for _, n := range wrongNumbers(0, far) {
		for _, boxes := range [][]api.Box{nil, {good}, {good, good}} {
			l, e := words.Paragraphs(boxes, n, 0)
			failList(t, "indent", l, e, api.ErrRange)
			l, e = words.Paragraphs(boxes, 0, n)
			failList(t, "gap", l, e, api.ErrRange)
		}
	}
}

func TestLearn(t *testing.T) {
	a40 := strings.Repeat("aB", 20)
	for _, c := range []struct {
		texts []string
		least int
		want  []api.Word
	}{
		{nil, 1, nil}, {[]string{""}, 1, nil}, {[]string{"", " 1 ' ", "-"}, 1, nil}, {[]string{"The cat", "the dog's the"}, 2, []api.Word{word("the", 3)}},
		{[]string{"The cat", "the dog's the"}, 1, []api.Word{word("cat", 1), word("dog's", 1), word("the", 3)}}, {[]string{"The cat", "the dog's the"}, 3, []api.Word{word("the", 3)}},
		{[]string{"The cat", "the dog's the"}, 4, nil}, {[]string{"The cat"}, 1_000_000_000, nil}, {[]string{"a", "a"}, 2, []api.Word{word("a", 2)}},
		// Words do not go on in the next text.
		{[]string{"mod", "ern", ""}, 1, []api.Word{word("ern", 1), word("mod", 1)}}, {[]string{"a'", "b"}, 1, []api.Word{word("a", 1), word("b", 1)}},
		{[]string{"zB Zb zb ZB ab b B", "\xc3\x84 \xc3\x84A \xe4\xc4 \xff\x80"}, 1, []api.Word{word("ab", 1), word("b", 2), word("zb", 4), word("\xc3\x84", 1), word("\xc3\x84a", 1), word("\xe4\xc4", 1), word("\xff\x80", 1)}},
		{[]string{"'its' it''s its-its 1its2"}, 1, []api.Word{word("it''s", 1), word("its", 4)}}, {[]string{a40 + " b " + a40 + "c"}, 1, []api.Word{word(strings.ToLower(a40), 1), word("b", 1)}},
	} {
		l, e := words.Learn(c.texts, c.least)
		wantList(t, strings.Join(c.texts, "|"), l, e, c.want)
	}
}

// manyWords has n different words.
func manyWords(n int) string {
	var l []string
	for i := range n {
		l = append(l, numberWord(i))
	}
	return strings.Join(l, " ")
}

func TestLearnErrors(t *testing.T) {
	long := strings.Repeat("a ", 1<<9)
	full := slices.Repeat([]string{long}, 1000)
	full[0] += strings.Repeat(" ", maxText-1000*len(long))
	l, e := words.Learn(full, 1)
	wantList(t, "as large as can be", l, e, []api.Word{word("a", 512000)})
	for _, least := range append(wrongNumbers(1, 1_000_000_000), 0, 1) {
		for _, texts := range [][]string{make([]string, 1001), {strings.Repeat("a", maxText+1)}, append(slices.Clone(full[:999]), full[999]+" "), append(full[1:], full[0], "")} {
			l, e := words.Learn(texts, least)
			failList(t, "too large", l, e, api.ErrLarge)
		}
	}
	for _, least := range append(wrongNumbers(1, 1_000_000_000), 0) {
		for _, texts := range [][]string{nil, {"a"}, {manyWords(5001)}, full} {
			l, e := words.Learn(texts, least)
			failList(t, "least", l, e, api.ErrRange)
		}
	}
	l, e = words.Learn([]string{manyWords(5000)}, 1)
	if e != api.OK || len(l) != 5000 || !slices.IsSortedFunc(l, func(a, b api.Word) int { return strings.Compare(a.Text, b.Text) }) {
		t.Error(len(l), e)
	}
	l, e = words.Learn([]string{manyWords(2600), manyWords(5001)}, 1)
	failList(t, "5001 words", l, e, api.ErrLarge)
	l, e = words.Learn([]string{manyWords(2600), manyWords(5001)}, 2)
	if e != api.OK || len(l) != 2600 {
		t.Error(len(l), e)
	}
	l, e = words.Learn([]string{manyWords(9000)}, 2)
	wantList(t, "none twice", l, e, nil)
}
