package words_test

import (
	"fmt"
	"slices"
	"strconv"
	"strings"
	"testing"

	"flatbed/api"
	"flatbed/words"
)

func mix(from, to string, cost int) api.Mix { return api.Mix{From: from, To: to, Cost: cost} }

// manyMixes are those of the numbers from 0 to before n, all different.
func manyMixes(n int) []api.Mix {
	var l []api.Mix
	for i := range n {
		l = append(l, mix(strconv.Itoa(i), "x", i%101))
	}
	return l
}

func TestCheckMixes(t *testing.T) {
	for _, l := range [][]api.Mix{
		nil, {}, {mix("a", "b", 0)}, {mix("a", "b", 100)}, {mix("abc", "abd", 1)}, {mix("a", "abc", 99)}, {mix("abc", "a", 50)},
		{mix("a", "b", 1), mix("b", "a", 1)}, {mix("a", "b", 1), mix("a", "c", 1), mix("c", "b", 1)}, {mix("a", "A", 1)},
		{mix("a", "bc", 1), mix("ab", "c", 1)}, {mix(" ", "\n", 1), mix("\x00", "\\", 1), mix("\xff\xfe\xfd", "\xc3\xa4", 1)},
		{mix("a", "a\x00", 1)}, manyMixes(200), mixedMixes(1, 200, "abc"),
	} {
		if e := words.CheckMixes(l); e != api.OK {
			t.Errorf("%.100s: error %d", fmt.Sprint(l), e)
		}
	}
}

// mixFaults spoil a mix; they are in the order in which they are looked for.
func mixFaults() []badMixes {
	l := []badMixes{}
	add := func(want api.Errno, m ...api.Mix) { l = append(l, badMixes{m, want}) }
	add(api.ErrForm, mix("", "b", 1), mix("a", "", 1), mix("", "", 1), mix("abcd", "b", 1), mix("a", "abcd", 1), mix("a", strings.Repeat("b", 259), 1))
	add(api.ErrForm, mix("a", "a", 1), mix("abc", "abc", 0), mix("\xff", "\xff", 100))
	// What has two faults has the error of the first one.
	add(api.ErrForm, mix("", "b", -1), mix("a", "abcd", 101), mix("a", "a", mostInt), mix("", "", leastInt))
	for _, n := range wrongNumbers(0, 100) {
		add(api.ErrRange, mix("a", "b", n), mix("x", "y", n))
	}
	add(api.ErrTwice, mix("x", "y", 1), mix("x", "y", 2), mix("x", "y", 0), mix("xxx", "yyy", 3))
	return l
}

func TestCheckMixesErrors(t *testing.T) {
	good := []api.Mix{mix("x", "y", 1), mix("xxx", "yyy", 1)}
	for _, c := range mixFaults() {
		for _, m := range c.l {
			l := append(slices.Clone(good), m)
			if e := words.CheckMixes(l); e != c.want {
				t.Errorf("%v: error %d, want %d", m, e, c.want)
			}
			// The first bad mix decides, whatever the others are.
			for _, d := range mixFaults() {
				l := append(slices.Clone(good), m, mix("d", "e", 7), d.l[0])
				if e := words.CheckMixes(l); e != c.want {
					t.Errorf("%v ahead of %v: error %d, want %d", m, d.l[0], e, c.want)
				}
			}
		}
	}
	for _, l := range [][]api.Mix{manyMixes(201), manyMixes(1000), slices.Repeat([]api.Mix{mix("a", "b", 1)}, 201), make([]api.Mix, 201)} {
		if e := words.CheckMixes(l); e != api.ErrLarge {
			t.Error(len(l), e)
		}
	}
}

func TestPrint(t *testing.T) {
	for want, l := range map[string][]api.Mix{
		"":                                     nil,
		"rn m 10\n":                            {mix("rn", "m", 10)},
		"l i 0\nb a 100\na b 7\n":              {mix("l", "i", 0), mix("b", "a", 100), mix("a", "b", 7)},
		"\\s \\n 1\n\\\\ \\s\\n\\\\ 20\n":      {mix(" ", "\n", 1), mix("\\", " \n\\", 20)},
		"\\\\s s 1\n\\\\\\\\ \\\\n\\n 2\n":     {mix("\\s", "s", 1), mix("\\\\", "\\n\n", 2)},
		"\t \r 3\n\x00\xff \xc3\xa4' 4\n":      {mix("\t", "\r", 3), mix("\x00\xff", "\xc3\xa4'", 4)},
		"\\s\\s\\s \\n\\n\\n 5\nabc a\\sc 6\n": {mix("   ", "\n\n\n", 5), mix("abc", "a c", 6)},
	} {
		text, e := words.Print(l)
		wantText(t, "Print", text, e, want)
		m, at, e := words.Parse(want)
		if wantList(t, want, m, e, l); at != 0 {
			t.Error(want, at)
		}
	}
}

func TestPrintErrors(t *testing.T) {
	for _, c := range eachBadMixes() {
		text, e := words.Print(c.l)
		failText(t, "Print", text, e, c.want)
	}
}

// TestPrintParse has mixes of all bytes.
func TestPrintParse(t *testing.T) {
	var all []api.Mix
	for c := range 256 {
		all = append(all, mix(string([]byte{byte(c)}), string([]byte{'x', byte(c), 'y'}), c%101))
	}
	for _, l := range [][]api.Mix{all[:200], all[56:], mixedMixes(3, 200, "\\sn \n\x00\xff"), mixedMixes(4, 120, "\\s n\n")} {
		text, e := words.Print(l)
		if e != api.OK || strings.Count(text, "\n") != len(l) || strings.Count(text, " ") != 2*len(l) {
			t.Errorf("%.100q: error %d", text, e)
		}
		m, at, e := words.Parse(text)
		if wantList(t, text, m, e, l); at != 0 {
			t.Error(at)
		}
	}
}

func TestParseSyntax(t *testing.T) {
	for _, c := range []struct {
		text string
		at   int
	}{
		// A line without a line feed.
		{"a", 0}, {"a b 1", 0}, {"a b 1\nc d 2", 1}, {"a b 1\nc", 1}, {" ", 0}, {"a b 1\n ", 1},
		// Not three parts, or an empty one.
		{"\n", 0}, {"\n\n", 0}, {" \n", 0}, {"  \n", 0}, {"a\n", 0}, {"a b\n", 0}, {"a b \n", 0}, {"a  1\n", 0}, {" b 1\n", 0}, {"  1\n", 0},
		{"a b 1 \n", 0}, {" a b 1\n", 0}, {"a  b 1\n", 0}, {"a b  1\n", 0}, {"a b c 1\n", 0}, {"a b 1 1\n", 0}, {"a\tb\t1\n", 0},
		{"a b 1\n\n", 1}, {"a b 1\n\nc d 2\n", 1}, {"a b 1\nc d 2\n\n", 2}, {"a b 1\nc d 2\n d 3\nx\n", 2}, {"a b 1\nc d 2\nx\n\n", 2},
		// Costs.
		{"a b 01\n", 0}, {"a b 00\n", 0}, {"a b 1000\n", 0}, {"a b 0100\n", 0}, {"a b -1\n", 0}, {"a b +1\n", 0}, {"a b x\n", 0}, {"a b 1x\n", 0},
		{"a b 1.\n", 0}, {"a b 0x1\n", 0}, {"a b 1_0\n", 0}, {"a b 1e1\n", 0}, {"a b \xb2\n", 0}, {"a b 1\r\n", 0}, {"a b 1\t\n", 0},
		{"a b 99999999999999999999999\n", 0}, {"a b 1\\n\n", 0}, {"a b \\s\n", 0}, {"a b /\n", 0}, {"a b :\n", 0},
		// A backslash by itself.
		{"\\ b 1\n", 0}, {"a \\ 1\n", 0}, {"\\x b 1\n", 0}, {"a \\x 1\n", 0}, {"a\\ b 1\n", 0}, {"\\S b 1\n", 0}, {"\\N b 1\n", 0}, {"\\t b 1\n", 0},
		{"\\\\\\ b 1\n", 0}, {"a s\\ 1\n", 0}, {"a \\0 1\n", 0}, {"a \\\\\\x 1\n", 0}, {"a \\\xff 1\n", 0}, {"\\ \\ 1\n", 0}, {"a b 1\n\\a b 1\n", 1},
		// What CheckMixes would find is found later, also if it stands ahead.
		{"abcd b 1\nx\n", 1}, {"a b 999\nx\n", 1}, {"a a 1\na a 1\nx\n", 2}, {strings.Repeat("a b 1\n", 300) + "a b\n", 300},
	} {
		l, at, e := words.Parse(c.text)
		failList(t, c.text, l, e, api.ErrSyntax)
		if at != c.at {
			t.Errorf("%.100q: line %d, want %d", c.text, at, c.at)
		}
	}
}

func TestParseErrors(t *testing.T) {
	many := func(n int) string {
		text := ""
		for i := range n {
			text += "x" + string(byte('!'+i%90)) + " " + string(byte('!'+i/90)) + "y 9\n"
		}
		return strings.ReplaceAll(text, "\\", "\\\\")
	}
	for text, want := range map[string]api.Errno{
		"":                                    api.OK,
		"a b 0\n":                             api.OK,
		"a b 100\n":                           api.OK,
		"a b 101\n":                           api.ErrRange,
		"a b 999\n":                           api.ErrRange,
		"abc def 1\n":                         api.OK,
		"abcd b 1\n":                          api.ErrForm,
		"a abcd 1\n":                          api.ErrForm,
		"\\s\\s\\s \\n\\n\\n 1\n":             api.OK,
		"\\s\\s\\s\\s b 1\n":                  api.ErrForm,
		"a b 1\na a 1\n":                      api.ErrForm,
		"a b 1\nb a 1\n":                      api.OK,
		"a b 1\na b 2\n":                      api.ErrTwice,
		"a b 200\na a 1\n":                    api.ErrRange,
		"a a 200\n":                           api.ErrForm,
		many(200):                             api.OK,
		many(201):                             api.ErrLarge,
		many(201) + "abcd b 1\n":              api.ErrLarge,
		"abcd b 1\n" + many(200):              api.ErrLarge,
		strings.Repeat("a", 1<<19) + " b 1\n": api.ErrForm,
	} {
		l, at, e := words.Parse(text)
		if at != 0 || e != want || e != api.OK && len(l) != 0 || len(l) > 0 && len(l) != strings.Count(text, "\n") {
			t.Errorf("%.60q: %d mixes, line %d, error %d; want %d", text, len(l), at, e, want)
		}
	}
}

// TestParseLarge has as many bytes as there can be, and one more.
func TestParseLarge(t *testing.T) {
	for _, text := range []string{strings.Repeat("#", maxText+1), strings.Repeat("a b 1\n", 1<<20), "a b 1\n" + strings.Repeat("\n", maxText)} {
		l, at, e := words.Parse(text)
		if failList(t, "too long", l, e, api.ErrLarge); at != 0 {
			t.Error(at)
		}
	}
	l, at, e := words.Parse(strings.Repeat("\n", maxText))
	if failList(t, "line feeds", l, e, api.ErrSyntax); at != 0 {
		t.Error(at)
	}
	text := strings.Repeat("a b 1\n", maxText/6)
	l, at, e = words.Parse(text + strings.Repeat("x", maxText-len(text)))
	if failList(t, "the last line", l, e, api.ErrSyntax); at != maxText/6 {
		t.Error(at)
	}
	text = strings.Repeat("a", maxText-5)
	l, at, e = words.Parse(text + " b 1\n")
	if failList(t, "a long part", l, e, api.ErrForm); at != 0 {
		t.Error(at)
	}
}
