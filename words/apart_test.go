package words_test

import (
	"slices"
	"strconv"
	"strings"
	"testing"

	"flatbed/api"
	"flatbed/words"
)

// spare fills the unused capacity of a list, so that what is written there is seen.
func spare[T any](l []T, with T) []T { return append(slices.Clone(l), with, with, with)[:len(l)] }

func whole[T any](l []T) []T { return slices.Clone(l[:cap(l)]) }

// spoil overwrites a result, and its unused capacity.
func spoil[T any](l []T, with T) {
	l = l[:cap(l)]
	for i := range l {
		l[i] = with
	}
}

// written tells what a list has, and overwrites it.
func written[T any](l []T, write func(x T) string, with T) string {
	text := "["
	for _, x := range l {
		text += write(x) + ";"
	}
	spoil(l, with)
	return text + "]"
}

func digits(n int) string { return strconv.Itoa(n) }

// A heap has one of each list that functions take.
type heap struct {
	mixes []api.Mix
	words []api.Word
	lines []string
	boxes []api.Box
}

func someHeap() heap {
	return heap{
		mixes: spare([]api.Mix{mix("rn", "m", 10), mix("l", "i", 20)}, mix("x", "", 7)),
		words: spare([]api.Word{word("modern", 3), word("corn", 5), word("com", 1), word("a", 9)}, word("", 0)),
		lines: spare([]string{"the mod-", "ern corn", "", "Com the"}, "\n"),
		boxes: spare([]api.Box{{X: 1, W: 9, H: 9}, {X: 0, Y: 12, W: 9, H: 9}, {X: 1, Y: 30, W: 9, H: 9}}, api.Box{}),
	}
}

// results writes all results into a text, and overwrites them.
func results(d *words.Dict, h heap) string {
	var text strings.Builder
	keep := func(s string, e api.Errno) { text.WriteString(s + digits(int(e)) + "\n") }
	slips, e := words.Script("modemix", "cormlx", h.mixes)
	keep(written(slips, func(s api.Slip) string { return digits(s.At) + s.Old + "/" + s.New + digits(s.Cost) }, slip(9, "x", "y", 9)), e)
	for _, start := range []string{"", "co", "a"} {
		keep(written(d.Begin(start, 2), func(s string) string { return s }, "x"), api.OK)
	}
	for _, most := range []int{0, 150, 10000} {
		near, e := d.Near("modem", h.mixes, most)
		keep(written(near, func(g api.Guess) string { return g.Text + digits(g.Distance) + "/" + digits(g.Count) }, guess("x", 1, 1)), e)
		best, n, e := d.Best("modem", h.mixes, most)
		keep(best+digits(n), e)
		fixed, fixes, e := words.Correct("modem Comm com corm", d, h.mixes, most)
		keep(fixed+written(fixes, func(f api.Fix) string { return digits(f.At) + f.Old + "/" + f.New }, fix(1, "x", "y")), e)
	}
	keep(written(words.Split("It's 'so'"), func(t api.Token) string { return t.Text + strconv.FormatBool(t.Word) }, api.Token{Text: "x"}), api.OK)
	keep(words.JoinLines(h.lines, d))
	paragraphs, e := words.Paragraphs(h.boxes, 1, 3)
	keep(written(paragraphs, func(l []int) string { return written(l, digits, -1) }, nil), e)
	learned, e := words.Learn(h.lines, 1)
	keep(written(learned, func(w api.Word) string { return w.Text + digits(w.Count) }, word("x", 1)), e)
	printed, e := words.Print(h.mixes)
	keep(printed, e)
	parsed, _, e := words.Parse(printed)
	keep(written(parsed, func(m api.Mix) string { return m.From + "/" + m.To + digits(m.Cost) }, mix("x", "y", 1)), e)
	n, e := words.Distance("modem", "modern", h.mixes)
	keep(digits(n), e)
	for _, w := range someHeap().words {
		keep(strconv.FormatBool(d.Has(w.Text))+digits(d.Count(w.Text)), api.OK)
	}
	return text.String()
}

// TestArgumentsStay overwrites all results, and calls again: no argument changes, and no later result.
func TestArgumentsStay(t *testing.T) {
	h := someHeap()
	old := heap{whole(h.mixes), whole(h.words), whole(h.lines), whole(h.boxes)}
	d := dict(t, h.words...)
	first := results(d, h)
	for range 3 {
		if again := results(d, h); again != first {
			t.Error("a result comes out otherwise the next time", first, again)
		}
	}
	if !slices.Equal(old.mixes, whole(h.mixes)) || !slices.Equal(old.words, whole(h.words)) || !slices.Equal(old.lines, whole(h.lines)) || !slices.Equal(old.boxes, whole(h.boxes)) {
		t.Error("an argument was changed")
	}
	// A dictionary does not hang on the list that it was made of.
	spoil(h.words, word("spoiled", 1))
	if again := results(d, h); again != first {
		t.Error("the dictionary has changed", first, again)
	}
	// Nor on other dictionaries.
	dict(t, word("modem", 4), word("corn", 7))
	if again := results(d, h); again != first {
		t.Error("the dictionary has changed", first, again)
	}
}

// TestParagraphsShareNothing overwrites one paragraph at a time, also behind its end: the others stay.
func TestParagraphsShareNothing(t *testing.T) {
	var boxes []api.Box
	for i := range 20 {
		boxes = append(boxes, api.Box{X: number(1, i) % 2, Y: 10 * i, W: 5, H: 5})
	}
	want, e := words.Paragraphs(boxes, 1, 10)
	if e != api.OK || len(want) < 4 {
		t.Fatal(want, e)
	}
	for i := range want {
		got, _ := words.Paragraphs(boxes, 1, 10)
		spoil(got[i], -1)
		_ = append(got[i], -1)
		got[i] = want[i]
		if !slices.EqualFunc(got, want, slices.Equal) {
			t.Error("two paragraphs share memory", i)
		}
	}
}

// TestErrorsLeaveNothing has calls with errors between others.
func TestErrorsLeaveNothing(t *testing.T) {
	h := someHeap()
	d := dict(t, h.words...)
	first := results(d, h)
	for _, bad := range eachBadMixes() {
		d.Near("a", bad.l, 1)
		d.Best("a", nil, -1)
		d.Best("zzz", nil, 0)
		words.Correct("zzz", d, bad.l, 1)
		words.JoinLines([]string{"\n"}, d)
		words.NewDict([]api.Word{word("new", 1), word("new", 1)})
	}
	if again := results(d, h); again != first {
		t.Error("an error has left something", first, again)
	}
}
