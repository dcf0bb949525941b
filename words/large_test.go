package words_test

import (
	"slices"
	"strings"
	"testing"

	"flatbed/api"
	"flatbed/words"
)

// The dictionaries, mixes and texts here are as large as they can be, and give the functions much to do.

// greatest has 5000 words of 40 bytes, which differ at their ends only.
func greatest() []api.Word {
	var l []api.Word
	for i := range 5000 {
		end := numberWord(i)
		l = append(l, word(strings.Repeat("Q", 40-len(end))+end, 1_000_000_000-i))
	}
	return l
}

func TestLargeDict(t *testing.T) {
	l := greatest()
	d := dict(t, l...)
	for i, w := range l {
		if d.Count(w.Text) != 1_000_000_000-i || d.Has(w.Text[1:]) {
			t.Fatal(i, d.Count(w.Text))
		}
	}
	var texts []string
	for _, w := range l {
		texts = append(texts, w.Text)
	}
	slices.Sort(texts)
	for _, most := range []int{4999, 5000, 5001, mostInt} {
		wantList(t, "Begin", d.Begin(strings.Repeat("Q", 30), most), api.OK, texts[:min(most, 5000)])
	}
	if again, e := words.NewDict(append(l, word("a", 1))); again != nil || e != api.ErrLarge {
		t.Error(e)
	}
}

func TestLargeNear(t *testing.T) {
	l := greatest()
	d := dict(t, l...)
	g, e := d.Near(l[77].Text, manyMixes(200), 0)
	wantList(t, "Near", g, e, []api.Guess{guess(l[77].Text, 0, l[77].Count)})
	g, e = d.Near("", nil, 4000)
	if e != api.OK || len(g) != 5000 || g[0] != guess(l[0].Text, 4000, l[0].Count) || g[4999] != guess(l[4999].Text, 4000, l[4999].Count) {
		t.Error(len(g), e)
	}
	// 160 of 200 bytes are too many.
	g, e = d.Near(strings.Repeat("Q", 200), nil, 10000)
	wantList(t, "too far", g, e, nil)
	long := strings.Repeat("q", 100) + strings.Repeat("Q", 100)
	mixes := append(mixedMixes(1, 198, "Qabcz"), mix("qqq", "Q", 0), mix("QQQ", "Q", 1))
	g, e = d.Near(long, mixes, 10000)
	if e != api.OK || len(g) != 5000 {
		t.Error(len(g), e)
	}
	for _, x := range slices.Concat(g[:3], g[len(g)-3:]) {
		wantInt(t, x.Text, x.Distance, api.OK, costByPromise(long, x.Text, mixes))
	}
	best, n, e := d.Best(l[123].Text+"x", mixes, 10000)
	if want, _ := d.Near(l[123].Text+"x", mixes, n); e != api.OK || best != want[0].Text || n != want[0].Distance {
		t.Error(best, n, e)
	}
}

func TestLargeCorrect(t *testing.T) {
	d := dict(t, word("modern", 3), word("corn", 2), word("b", 1))
	mixes := append(manyMixes(199), mix("rn", "m", 10))
	text := strings.Repeat("modem corn Com ", maxText/15)
	text += strings.Repeat("-", maxText-len(text))
	want := strings.ReplaceAll(strings.ReplaceAll(text, "modem", "modern"), "Com", "Corn")
	got, fixes, e := words.Correct(text, d, mixes, 10)
	wantText(t, "1 MiB", got, e, want)
	if len(fixes) != 2*(maxText/15) || fixes[len(fixes)-1] != fix(15*(maxText/15)-4, "Com", "Corn") {
		t.Error(len(fixes), fixes[len(fixes)-1])
	}
	for _, text := range []string{strings.Repeat("z", maxText), strings.Repeat("'", maxText), strings.Repeat(" ", maxText), strings.Repeat("a'", maxText/2), strings.Repeat("b ", maxText/2)} {
		got, fixes, e := words.Correct(text, d, nil, 0)
		wantText(t, text, got, e, text)
		wantList(t, text, fixes, e, nil)
	}
	// A text of many different words, none of which the dictionary has.
	l := greatest()[:4999]
	d = dict(t, append(l, word("zzrnzz", 1))...)
	text = manyWords(20000) + " zzmzz"
	got, fixes, e = words.Correct(text, d, mixes, 50)
	wantText(t, "many words", got, e, strings.TrimSuffix(text, "zzmzz")+"zzrnzz")
	wantList(t, "many words", fixes, e, []api.Fix{fix(len(text)-5, "zzmzz", "zzrnzz")})
}

func TestLargeSplit(t *testing.T) {
	const n = maxText
	l := words.Split(strings.Repeat("a ", n))
	if len(l) != 2*n || l[0] != (api.Token{Text: "a", Word: true}) || l[2*n-1] != (api.Token{Text: " "}) {
		t.Error(len(l))
	}
	for _, text := range []string{strings.Repeat("a", n), strings.Repeat("'", n), strings.Repeat("-", n), strings.Repeat("a'", n), strings.Repeat("'", n) + "-"} {
		wantList(t, text, words.Split(text), api.OK, []api.Token{{Text: text}})
	}
	text := strings.Repeat("'", n)
	wantList(t, "'a'", words.Split(text+"a"+text), api.OK, []api.Token{{Text: text}, {Text: "a", Word: true}, {Text: text}})
}

func TestLargeJoin(t *testing.T) {
	d := dict(t, word("a", 1), word("aa", 1))
	for _, c := range []struct {
		lines []string
		want  string
	}{
		{slices.Repeat([]string{"a"}, 10000), strings.Repeat("a ", 9999) + "a"},
		{make([]string, 10000), ""},
		{append(make([]string, 9999), "a"), "a"},
		{[]string{strings.Repeat("a", maxText)}, strings.Repeat("a", maxText)},
		{[]string{strings.Repeat(" ", maxText-1), "-"}, "-"},
		{slices.Repeat([]string{strings.Repeat("b", 103) + "-"}, 10000), strings.Repeat("b", 1030000) + "-"},
		{append([]string{strings.Repeat("'", 1000000) + "b-"}, slices.Repeat([]string{"b-"}, 9999)...), strings.Repeat("'", 1000000) + strings.Repeat("b", 10000) + "-"},
		{slices.Repeat([]string{"a-"}, 10000), strings.Repeat("aa-", 5000)},
	} {
		text, e := words.JoinLines(c.lines, d)
		wantText(t, c.lines[0], text, e, c.want)
	}
}

func TestLargeParagraphs(t *testing.T) {
	var l []api.Box
	for i := range api.MaxBoxes {
		l = append(l, api.Box{X: i % 2, Y: 100 * i, W: 9, H: 50})
	}
	for _, c := range [][3]int{{2, 50, 1}, {2, 49, 5000}, {0, 50, 5000}, {1, 50, 2501}} {
		p, e := words.Paragraphs(l, c[0], c[1])
		if e != api.OK || len(p) != c[2] {
			t.Error(c, len(p), e)
		}
	}
}
