package page_test

import (
	"strconv"
	"strings"
	"testing"

	"flatbed/api"
	"flatbed/page"
)

func TestPrint(t *testing.T) {
	for _, c := range []struct {
		page api.Bits
		want string
	}{
		{draw("#"), "#\n"},
		{draw("."), ".\n"},
		{draw("#.#", "..#"), "#.#\n..#\n"},
		{draw("#", ".", "#"), "#\n.\n#\n"},
		{plain(200, 200), strings.Repeat(strings.Repeat(".", 200)+"\n", 200)},
	} {
		if s, e := page.Print(c.page); s != c.want || e != api.OK {
			t.Errorf("%q %d; want %q", s, e, c.want)
		}
	}
	for _, b := range []api.Bits{plain(201, 1), plain(1, 201), plain(201, 201), plain(4000, 200)} {
		if s, e := page.Print(b); s != "" || e != api.ErrLarge {
			t.Errorf("%d by %d: %q %d", b.W, b.H, s, e)
		}
	}
}

func TestParse(t *testing.T) {
	for text, want := range map[string]api.Bits{
		"#\n":              draw("#"),
		".\n":              draw("."),
		"#.#\n..#\n":       draw("#.#", "..#"),
		"#\n.\n.\n#\n":     draw("#", ".", ".", "#"),
		"..\n##\n.#\n":     draw("..", "##", ".#"),
		"#......\n":        draw("#......"),
		"......\n....##\n": draw("......", "....##"),
	} {
		x, at, e := page.Parse(text)
		wantBits(t, text, x, e, want)
		if at != 0 {
			t.Errorf("%q: line %d", text, at)
		}
	}
	largest := strings.Repeat(strings.Repeat("#", 200)+"\n", 200)
	x, _, e := page.Parse(largest)
	if n, _ := page.Ink(x, api.Box{W: 200, H: 200}); e != api.OK || n != 40000 {
		t.Error(n, e)
	}
}

func TestParseErrors(t *testing.T) {
	row := strings.Repeat(".", 200) + "\n"
	wide := strings.Repeat("#", 201) + "\n"
	for _, c := range []struct {
		text string
		at   int
		want api.Errno
	}{
		{"", 0, api.ErrEmpty},
		{"\n", 0, api.ErrSyntax},
		{"\n\n", 0, api.ErrSyntax},
		{"#", 0, api.ErrSyntax},
		{"##\n##", 1, api.ErrSyntax},
		{"##\n#", 1, api.ErrSyntax},
		{"##\n#\n", 1, api.ErrSyntax},
		{"##\n###\n", 1, api.ErrSyntax},
		{"##\n##\n\n", 2, api.ErrSyntax},
		{"##\n\n##\n", 1, api.ErrSyntax},
		{"\n##\n", 0, api.ErrSyntax},
		{"##\n.x\n", 1, api.ErrSyntax},
		{"x#\n##\n", 0, api.ErrSyntax},
		{"##\r\n##\r\n", 0, api.ErrSyntax},
		{"##\n# \n", 1, api.ErrSyntax},
		{"##\n#\x00\n#\n", 1, api.ErrSyntax},
		{"##\n##\n#\xff\n#\n", 2, api.ErrSyntax},
		{strings.Repeat(".\n", 200), 0, api.OK},
		{strings.Repeat(".\n", 201), 0, api.ErrLarge},
		{wide, 0, api.ErrLarge},
		{wide + wide, 0, api.ErrLarge},
		{wide + "#\n", 1, api.ErrSyntax},
		{strings.Repeat(".\n", 300) + "..\n", 300, api.ErrSyntax},
		{strings.Repeat(".\n", 300) + ".", 300, api.ErrSyntax},
		{strings.Repeat(row, 200), 0, api.OK},
		{strings.Repeat(row, 200) + ".", 0, api.ErrLarge},
		{strings.Repeat("x", 40201), 0, api.ErrLarge},
		{strings.Repeat("x", 40200), 0, api.ErrSyntax},
		{strings.Repeat("#", 40200), 0, api.ErrSyntax},
		{strings.Repeat("#", 40199) + "\n", 0, api.ErrLarge},
		{strings.Repeat(row, 199) + strings.Repeat(".", 201), 199, api.ErrSyntax},
	} {
		x, at, e := page.Parse(c.text)
		if at != c.at || e != c.want {
			t.Errorf("%.20q (%d bytes): line %d, error %d; want %d, %d", c.text, len(c.text), at, e, c.at, c.want)
		}
		if e != api.OK && !sameBits(x, api.Bits{}) {
			t.Errorf("%.20q: a page with an error", c.text)
		}
	}
}

func TestParseOfPrint(t *testing.T) {
	for _, size := range [][2]int{{1, 1}, {200, 1}, {1, 200}, {200, 200}, {17, 9}} {
		b := mixedBits(size[0], size[1])
		text, _ := page.Print(b)
		x, at, e := page.Parse(text)
		wantBits(t, "Parse of Print", x, e, b)
		if at != 0 {
			t.Error(at)
		}
	}
}

func TestIsRow(t *testing.T) {
	for line, want := range map[string]bool{
		"#": true, ".": true, "#..#": true, strings.Repeat("#", 5000): true,
		"": false, " ": false, "#\n": false, "..x": false, "# #": false, "\x00": false, "0": false,
	} {
		if page.IsRow(line) != want {
			t.Errorf("%.20q", line)
		}
	}
}

func TestNumber(t *testing.T) {
	for text, want := range map[string]int{"0": 0, "7": 7, "10": 10, "999": 999, "305": 305} {
		if n, ok := page.Number(text, 3); n != want || !ok {
			t.Errorf("%q: %d %v", text, n, ok)
		}
	}
	for _, text := range []string{"", "00", "07", "000", "1000", "-1", "+1", " 1", "1 ", "1.", "1a", "a", "/", ":", "\x00", "\xb2", "99999999999999999999"} {
		if n, ok := page.Number(text, 3); n != 0 || ok {
			t.Errorf("%q: %d %v", text, n, ok)
		}
	}
	if n, ok := page.Number(strings.Repeat("9", 18), 18); n != 1e18-1 || !ok {
		t.Error(n, ok)
	}
}

func TestNumbers(t *testing.T) {
	for _, c := range []struct {
		words []string
		want  bool
	}{
		{[]string{"7", "305"}, true}, {[]string{"0", "999"}, true}, {[]string{"7"}, false}, {nil, false}, {[]string{"7", "305", "1"}, false},
		{[]string{"x", "1"}, false}, {[]string{"1", "x"}, false}, {[]string{"1", "1000"}, false}, {[]string{"01", "1"}, false}, {[]string{"", ""}, false},
	} {
		var a, b int
		if ok := page.Numbers(c.words, 3, &a, &b); ok != c.want {
			t.Errorf("%q: %v", c.words, ok)
		} else if ok && (strconv.Itoa(a) != c.words[0] || strconv.Itoa(b) != c.words[1]) {
			t.Errorf("%q: %d %d", c.words, a, b)
		}
	}
	if !page.Numbers(nil, 3) {
		t.Error("no words are no numbers")
	}
}

func TestLines(t *testing.T) {
	l := page.Lines{Rest: "a\n\nb\nc"}
	is := func(want string) func(line string) bool { return func(line string) bool { return line == want } }
	for i, c := range []struct {
		line, rest string
		at         int
		ok         bool
	}{
		{"b", "a\n\nb\nc", 0, false}, {"a", "\nb\nc", 1, true}, {"b", "\nb\nc", 1, false}, {"", "b\nc", 2, true}, {"b", "c", 3, true}, {"c", "c", 3, false}, {"", "c", 3, false},
	} {
		if ok := l.Next(is(c.line)); ok != c.ok || l.Rest != c.rest || l.At != c.at {
			t.Errorf("%d: %v %q %d", i, ok, l.Rest, l.At)
		}
	}
	l = page.Lines{Rest: "a\na\nb\na\n"}
	l.Each(is("a"))
	if l.Rest != "b\na\n" || l.At != 2 {
		t.Errorf("%q %d", l.Rest, l.At)
	}
	l.Each(is("a"))
	if l.At != 2 {
		t.Error(l.At)
	}
	l.Each(func(string) bool { return true })
	if l.Rest != "" || l.At != 4 {
		t.Errorf("%q %d", l.Rest, l.At)
	}
	l = page.Lines{}
	if l.Next(func(string) bool { return true }) || l.At != 0 {
		t.Error("a text without lines has one")
	}
}
