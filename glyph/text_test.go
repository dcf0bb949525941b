package glyph_test

import (
	"strconv"
	"strings"
	"testing"

	"flatbed/api"
	"flatbed/glyph"
)

const tinyText = "font tiny 5 1 3\n" +
	"letter i\n#\n.\n#\n#\n#\n" +
	"letter l\n#\n#\n#\n#\n#\n" +
	"letter o\n...\n###\n#.#\n#.#\n###\n" +
	"letter ll\n#.#\n#.#\n#.#\n#.#\n###\n"

func TestPrint(t *testing.T) {
	for want, f := range map[string]api.Font{
		tinyText:                      tiny(),
		"font a 1 1 2\nletter !\n#\n": least(),
	} {
		if text, e := glyph.Print(f); text != want || e != api.OK {
			t.Errorf("%q %d; want %q", text, e, want)
		}
	}
	f := greatest()
	text, e := glyph.Print(f)
	if e != api.OK || len(text) != len("font  64 16 64\n")+40+200*(len("letter wxyz\n")+64*65) || !strings.HasPrefix(text, "font "+f.Name+" 64 16 64\nletter ") {
		t.Error(len(text), e)
	}
}

func TestParse(t *testing.T) {
	for _, f := range append(mixedFonts(), greatest()) {
		text, _ := glyph.Print(f)
		g, at, e := glyph.Parse(text)
		wantFont(t, f.Name, g, e, f)
		if at != 0 {
			t.Error(f.Name, at)
		}
	}
	// Texts of letters that look like other lines, and letters of one column that look alike.
	f := least()
	f.Letters = []api.Letter{letter("#", "#"), letter(".", "#"), letter("font", "#"), letter("##", "##"), letter("\\", "#")}
	g, at, e := glyph.Parse("font a 1 1 2\nletter #\n#\nletter .\n#\nletter font\n#\nletter ##\n##\nletter \\\n#\n")
	if wantFont(t, "letters", g, e, f); at != 0 {
		t.Error(at)
	}
}

func TestParseSyntax(t *testing.T) {
	for _, c := range []struct {
		text string
		at   int
	}{
		// A text that ends too early has the number of its lines.
		{"", 0}, {"font tiny 2 1 3\nletter i\n", 2}, {"font tiny 2 1 3\nletter i\n#\n", 3}, {"font tiny 999999999 1 3\nletter i\n#\n#\n", 4},
		{"font tiny 1 1 3\nletter i\n#\nletter l\n", 4}, {"font tiny 1000000000 1 3\n", 0},
		// A line without a line feed.
		{"font tiny 2 1 3", 0}, {"font tiny 2 1 3\nletter i", 1}, {"font tiny 2 1 3\nletter i\n#", 2}, {"font tiny 2 1 3\nletter i\n#\n#", 3},
		{"font tiny 1 1 3\nletter i\n#\nl", 3},
		// The first line.
		{"\n", 0}, {"\nfont tiny 2 1 3\n", 0}, {"fonts tiny 2 1 3\n", 0}, {"Font tiny 2 1 3\n", 0}, {" font tiny 2 1 3\n", 0},
		{"font tiny 2 1\n", 0}, {"font tiny 2 1 3 4\n", 0}, {"font tiny 2 1 3 \n", 0}, {"font  tiny 2 1 3\n", 0}, {"font tiny 2  1 3\n", 0},
		{"font\ttiny 2 1 3\n", 0}, {"font  2 1 3\n", 0}, {"font 2 1 3\n", 0}, {"font tiny\n", 0}, {"font\n", 0}, {"font tiny 2 1 3\r\n", 0},
		{"letter i\n#\n", 0}, {"font a b 2 1 3\n", 0},
		// Numbers.
		{"font tiny 02 1 3\n", 0}, {"font tiny 2 01 3\n", 0}, {"font tiny 2 1 00\n", 0}, {"font tiny -2 1 3\n", 0}, {"font tiny +2 1 3\n", 0},
		{"font tiny 2 1 3x\n", 0}, {"font tiny 2 1.5 3\n", 0}, {"font tiny 0x2 1 3\n", 0}, {"font tiny  1 3\n", 0}, {"font tiny 2 1 1234567890\n", 0},
		{"font tiny 2 1 99999999999999999999999\n", 0}, {"font tiny 2 1e1 3\n", 0}, {"font tiny 2 1_0 30\n", 0}, {"font tiny \xb2 1 3\n", 0},
		// Letters.
		{"font tiny 1 1 3\n\n", 1}, {"font tiny 1 1 3\nletter\n#\n", 1}, {"font tiny 1 1 3\nletter \n#\n", 1}, {"font tiny 1 1 3\nletter  i\n#\n", 1},
		{"font tiny 1 1 3\nletter i \n#\n", 1}, {"font tiny 1 1 3\nletter a b\n#\n", 1}, {"font tiny 1 1 3\nletters i\n#\n", 1},
		{"font tiny 1 1 3\nLetter i\n#\n", 1}, {"font tiny 1 1 3\nletter\ti\n#\n", 1}, {"font tiny 1 1 3\nletter i\r\n#\n", 1},
		{"font tiny 1 1 3\nletter \x7f\n#\n", 1}, {"font tiny 1 1 3\nletter a\x80\n#\n", 1}, {"font tiny 1 1 3\nletter a\x00\n#\n", 1},
		{"font tiny 1 1 3\nletter i\n#\nletter \x1f\n#\n", 3}, {"font tiny 1 1 3\n#\n", 1}, {"font tiny 1 1 3\nfont tiny 1 1 3\n", 1},
		{"font tiny 1 1 3\nletter i\n#\n#\n", 3}, {"font tiny 1 1 3\nletter i\n#\n\n", 3}, {"font tiny 0 1 3\nletter i\n#\n", 2},
		// Rows.
		{"font tiny 2 1 3\nletter i\n\n#\n", 2}, {"font tiny 2 1 3\nletter i\n#\n\n", 3}, {"font tiny 2 1 3\nletter i\n#\nletter l\n#\n#\n", 3},
		{"font tiny 2 1 3\nletter i\n##\n#\n", 3}, {"font tiny 2 1 3\nletter i\n##\n###\n", 3}, {"font tiny 2 1 3\nletter i\n#x\n##\n", 2},
		{"font tiny 2 1 3\nletter i\n# \n##\n", 2}, {"font tiny 2 1 3\nletter i\n#\r\n#\r\n", 2}, {"font tiny 2 1 3\nletter i\n#\n0\n", 3},
		{tinyText + "\n", 25}, {tinyText + "x", 25}, {tinyText + "letter x\n", 26}, {tinyText[:len(tinyText)-1], 24},
		// What Check would find is found later, also if it stands ahead.
		{"font Tiny 99 0 0\nletter abcde\n", 2}, {"font tiny 1 1 3\nletter i\n#\nletter i\n#\nx\n", 5},
	} {
		f, at, e := glyph.Parse(c.text)
		failFont(t, c.text, f, e, api.ErrSyntax)
		if at != c.at {
			t.Errorf("%q: line %d, want %d", c.text, at, c.at)
		}
	}
}

func TestParseCheck(t *testing.T) {
	wide := func(n int) string { return "font a 1 1 2\nletter i\n" + strings.Repeat("#", n) + "\n" }
	many := func(n int) string {
		text := "font a 1 1 2\n"
		for i := range n {
			text += "letter " + strconv.Itoa(i) + "\n#\n"
		}
		return text
	}
	for text, want := range map[string]api.Errno{
		"font Tiny 1 1 2\nletter i\n#\n":                           api.ErrName,
		"font 9 0 1 2\nletter i\n":                                 api.ErrName,
		"font \xe4\t 1 1 2\n":                                      api.ErrName,
		"font " + strings.Repeat("a", 40) + " 1 1 2\n":             api.ErrEmpty,
		"font " + strings.Repeat("a", 41) + " 1 1 2\n":             api.ErrName,
		"font a 0 1 2\nletter i\n":                                 api.ErrRange,
		"font a 0 1 2\n":                                           api.ErrRange,
		"font a 65 1 2\n":                                          api.ErrRange,
		"font a 65 1 2\nletter i\n" + strings.Repeat("#\n", 65):    api.ErrRange,
		"font a 999999999 1 2\n":                                   api.ErrRange,
		"font a 1 0 2\n":                                           api.ErrRange,
		"font a 1 17 20\n":                                         api.ErrRange,
		"font a 1 1 65\n":                                          api.ErrRange,
		"font a 1 999999999 2\n":                                   api.ErrRange,
		"font a 1 2 2\nletter i\n#\n":                              api.ErrOrder,
		"font a 1 1 2\n":                                           api.ErrEmpty,
		"font a 1 1 2\nletter abcde\n#\n":                          api.ErrForm,
		"font a 1 1 2\nletter " + strings.Repeat("a", 9) + "\n.\n": api.ErrForm,
		"font a 1 1 2\nletter i\n#\nletter i\n.\n":                 api.ErrTwice,
		"font a 1 1 2\nletter i\n.\n":                              api.ErrForm,
		"font a 2 1 2\nletter i\n#.#\n#.#\n":                       api.ErrForm,
		wide(64):                                                   api.OK,
		wide(65):                                                   api.ErrLarge,
		wide(300):                                                  api.ErrLarge,
		wide(4000):                                                 api.ErrLarge,
		wide(4001):                                                 api.ErrRange,
		wide(1 << 19):                                              api.ErrRange,
		many(200):                                                  api.OK,
		many(201):                                                  api.ErrLarge,
	} {
		f, at, e := glyph.Parse(text)
		if at != 0 || e != want || e != api.OK && !sameFont(f, api.Font{}) {
			t.Errorf("%.60q: line %d, error %d; want %d", text, at, e, want)
		}
	}
}

// TestParseLarge has as many bytes as there can be, and one more.
func TestParseLarge(t *testing.T) {
	f, at, e := glyph.Parse(strings.Repeat("#", 1<<20+1))
	if failFont(t, "too long", f, e, api.ErrLarge); at != 0 {
		t.Error(at)
	}
	f, at, e = glyph.Parse(strings.Repeat("\n", 1<<20))
	if failFont(t, "as long as can be", f, e, api.ErrSyntax); at != 0 {
		t.Error(at)
	}
	head, line := "font a 0 1 2\n", "letter abcd\n"
	text := head + strings.Repeat(line, (1<<20-len(head))/len(line))
	f, at, e = glyph.Parse(text)
	if failFont(t, "many letters", f, e, api.ErrRange); at != 0 {
		t.Error(at)
	}
	f, at, e = glyph.Parse(text[:len(text)-1])
	if failFont(t, "many letters", f, e, api.ErrSyntax); at != (1<<20-len(head))/len(line) {
		t.Error(at)
	}
	text = "font a 999999999 1 2\nletter i\n" + strings.Repeat("#\n", 1<<19-20)
	f, at, e = glyph.Parse(text)
	if failFont(t, "many rows", f, e, api.ErrSyntax); at != 1<<19-18 {
		t.Error(at)
	}
}
