package words_test

import (
	"slices"
	"sort"
	"strings"
	"testing"

	"flatbed/api"
	"flatbed/words"
)

func word(text string, count int) api.Word { return api.Word{Text: text, Count: count} }

func guess(text string, distance, count int) api.Guess {
	return api.Guess{Text: text, Distance: distance, Count: count}
}

func goodWords() []string {
	return []string{
		"a", "z", "A", "Z", "\x80", "\xff", "\xc3\xa4", "ab", "aB", "it's", "o''clock", "a'b'c", "\xff'\x80", "Z'a",
		strings.Repeat("a", 40), strings.Repeat("\x80", 40), "a" + strings.Repeat("'", 38) + "b", strings.Repeat("a'", 19) + "bZ",
	}
}

func wrongWords() []string {
	return []string{
		"", "'", "''", "'a", "a'", "'a'", " ", "a b", " a", "a ", "a\n", "a\x00b", "1", "a1", "1a", "a1b", "a-b", "a.b", "-", "a_b", "a\x7fb", "\x7f", "@", "[", "`", "{",
		"a@b", "a[b", "a`b", "a{b", "a\tb", "a&b", "a(b", strings.Repeat("a", 41), strings.Repeat("\x80", 41), strings.Repeat("a", 40) + "'", strings.Repeat("a", 296),
		"a" + strings.Repeat("'", 39) + "b", "'" + strings.Repeat("a", 38) + "'",
	}
}

func TestNewDict(t *testing.T) {
	dict(t)
	for _, text := range goodWords() {
		for _, count := range []int{1, 2, 1_000_000_000} {
			d := dict(t, word(text, count))
			if !d.Has(text) || d.Count(text) != count {
				t.Errorf("%q: %d", text, d.Count(text))
			}
		}
	}
	d := dict(t, word("corn", 5), word("Corn", 7), word("CORN", 1), word("\xc3\xa4", 9), word("it's", 2))
	for text, count := range map[string]int{
		"corn": 5, "Corn": 7, "CORN": 1, "\xc3\xa4": 9, "it's": 2, "cOrn": 0, "cor": 0, "corns": 0, " corn": 0, "corn ": 0, "": 0, "\xc3": 0,
		"\xc3\x84": 0, "its": 0, "'it's": 0, strings.Repeat("corn", 1000): 0, "corn\x00": 0,
	} {
		if d.Count(text) != count || d.Has(text) != (count > 0) {
			t.Errorf("%q: %d", text, d.Count(text))
		}
	}
	for _, text := range wrongWords() {
		if d.Has(text) || d.Count(text) != 0 {
			t.Errorf("%q is there", text)
		}
	}
}

func TestNewDictErrors(t *testing.T) {
	type fault struct {
		word api.Word
		want api.Errno
	}
	var faults []fault
	for _, text := range wrongWords() {
		faults = append(faults, fault{word(text, 1), api.ErrForm}, fault{word(text, 0), api.ErrForm}, fault{word(text, mostInt), api.ErrForm})
	}
	for _, n := range append(wrongNumbers(1, 1_000_000_000), 0) {
		faults = append(faults, fault{word("bad", n), api.ErrRange}, fault{word("good", n), api.ErrRange})
	}
	faults = append(faults, fault{word("good", 1), api.ErrTwice}, fault{word("fine", 7), api.ErrTwice})
	for _, f := range faults {
		// The first bad word decides, whatever those behind it are.
		for _, behind := range [][]api.Word{nil, {word("", 1)}, {word("x", 0)}, {word("fine", 1)}} {
			l := append([]api.Word{word("good", 3), word("fine", 4), f.word, word("well", 1)}, behind...)
			if d, e := words.NewDict(l); d != nil || e != f.want {
				t.Errorf("%v: error %d, want %d", f.word, e, f.want)
			}
		}
	}
	for _, l := range [][]api.Word{make([]api.Word, 5001), slices.Repeat([]api.Word{word("a", 1)}, 6000)} {
		if d, e := words.NewDict(l); d != nil || e != api.ErrLarge {
			t.Error(len(l), e)
		}
	}
}

func TestBegin(t *testing.T) {
	d := plainDict(t, "come", "Corn", "corn", "co", "cob", "c", "d", "\xc3\xa4", "\xc3", "co'm", "comet", "cn", "cp")
	for _, c := range []struct {
		start string
		most  int
		want  []string
	}{
		{"", 100, []string{"Corn", "c", "cn", "co", "co'm", "cob", "come", "comet", "corn", "cp", "d", "\xc3", "\xc3\xa4"}},
		{"", 1, []string{"Corn"}}, {"", 2, []string{"Corn", "c"}}, {"co", 100, []string{"co", "co'm", "cob", "come", "comet", "corn"}},
		{"co", 6, []string{"co", "co'm", "cob", "come", "comet", "corn"}}, {"co", 5, []string{"co", "co'm", "cob", "come", "comet"}},
		{"co", mostInt, []string{"co", "co'm", "cob", "come", "comet", "corn"}}, {"com", 9, []string{"come", "comet"}}, {"come", 9, []string{"come", "comet"}},
		{"comet", 9, []string{"comet"}}, {"comets", 9, nil}, {"C", 9, []string{"Corn"}}, {"\xc3", 9, []string{"\xc3", "\xc3\xa4"}}, {"d", 9, []string{"d"}},
		{"co", 0, nil}, {"co", -1, nil}, {"co", leastInt, nil}, {"", 0, nil}, {"A", 9, nil}, {"e", 9, nil}, {"cq", 9, nil}, {"\xff", 9, nil}, {" ", 9, nil}, {"co ", 9, nil},
	} {
		wantList(t, c.start, d.Begin(c.start, c.most), api.OK, c.want)
	}
	wantList(t, "an empty dictionary", dict(t).Begin("", 9), api.OK, nil)
}

func TestNear(t *testing.T) {
	some := []api.Mix{mix("rn", "m", 10), mix("l", "i", 20)}
	d := dict(t, word("corn", 5), word("come", 50), word("modern", 3), word("file", 9), word("fill", 9), word("COM", 1), word("comb", 50), word("cod", 51))
	for _, c := range []struct {
		text string
		l    []api.Mix
		most int
		want []api.Guess
	}{
		{"corn", nil, 0, []api.Guess{guess("corn", 0, 5)}}, {"corn", some, 9, []api.Guess{guess("corn", 0, 5)}},
		{"com", some, 9, nil}, {"com", some, 10, []api.Guess{guess("corn", 10, 5)}}, {"com", some, 99, []api.Guess{guess("corn", 10, 5)}},
		{"com", some, 100, []api.Guess{guess("corn", 10, 5), guess("cod", 100, 51), guess("comb", 100, 50), guess("come", 100, 50)}},
		{"com", nil, 100, []api.Guess{guess("cod", 100, 51), guess("comb", 100, 50), guess("come", 100, 50)}},
		{"com", nil, 199, []api.Guess{guess("cod", 100, 51), guess("comb", 100, 50), guess("come", 100, 50)}},
		{"com", nil, 200, []api.Guess{guess("cod", 100, 51), guess("comb", 100, 50), guess("come", 100, 50), guess("corn", 200, 5)}},
		{"com", nil, 300, []api.Guess{guess("cod", 100, 51), guess("comb", 100, 50), guess("come", 100, 50), guess("corn", 200, 5), guess("COM", 300, 1)}},
		{"filx", nil, 100, []api.Guess{guess("file", 100, 9), guess("fill", 100, 9)}},
		{"fiie", some, 20, []api.Guess{guess("file", 20, 9)}}, {"fiie", some, 140, []api.Guess{guess("file", 20, 9), guess("fill", 120, 9)}},
		{"", nil, 300, []api.Guess{guess("cod", 300, 51), guess("COM", 300, 1)}}, {"", nil, 299, nil},
		// What is looked for need be no word.
		{"co m", some, 110, []api.Guess{guess("corn", 110, 5)}}, {"cod1", nil, 100, []api.Guess{guess("cod", 100, 51)}},
	} {
		l, e := d.Near(c.text, c.l, c.most)
		wantList(t, c.text, l, e, c.want)
	}
	l, e := dict(t).Near("a", some, 10000)
	wantList(t, "an empty dictionary", l, e, nil)
}

// mixedDict has words of a few letters, so that many begin alike, with few different counts.
func mixedDict(t *testing.T, seed, count, most int, bytes string) (*words.Dict, []api.Word) {
	t.Helper()
	known := map[string]bool{}
	var l []api.Word
	for i := 0; len(l) < count; i++ {
		text := mixedText(seed+i, 1+number(seed, i)%most, bytes)
		if !known[text] {
			known[text] = true
			l = append(l, word(text, 1+number(seed+7, i)%5))
		}
	}
	return dict(t, l...), l
}

// nearByPromise looks at each word by itself.
func nearByPromise(text string, dict []api.Word, l []api.Mix, most int) []api.Guess {
	var near []api.Guess
	for _, w := range dict {
		if n := costByPromise(text, w.Text, l); n <= most {
			near = append(near, guess(w.Text, n, w.Count))
		}
	}
	sort.Slice(near, func(i, j int) bool {
		a, b := near[i], near[j]
		if a.Distance != b.Distance {
			return a.Distance < b.Distance
		}
		if a.Count != b.Count {
			return a.Count > b.Count
		}
		return a.Text < b.Text
	})
	return near
}

func TestNearByPromise(t *testing.T) {
	for seed := range 60 {
		bytes := []string{"ab", "abcd", "abcdefgh\xff", "aAbB"}[seed%4]
		d, l := mixedDict(t, seed, 40, 9, bytes)
		mixes := mixedMixes(seed, []int{0, 1, 3, 12, 60}[seed%5], bytes+"x")
		for i := range 8 {
			text := mixedText(seed-i-1, number(seed, i)%12, bytes+"x")
			all := nearByPromise(text, l, mixes, 10000)
			for _, most := range []int{0, 20, 50, 99, 100, 105, 150, 200, 300, 400, 10000} {
				want := slices.Clone(all)
				want = slices.DeleteFunc(want, func(g api.Guess) bool { return g.Distance > most })
				got, e := d.Near(text, mixes, most)
				wantList(t, text, got, e, want)
				wantBest(t, d, text, mixes, most, want)
			}
		}
	}
}

// TestNearLongWords has words of up to 40 bytes that begin in many ways.
func TestNearLongWords(t *testing.T) {
	for seed := range 6 {
		_, l := mixedDict(t, seed, 30, 40, "abcd")
		long := word("A"+mixedText(seed, 39, "abcd"), 3)
		l = append(l, long, word("x"+long.Text[1:39], 4), word("y"+long.Text[1:38]+"zz", 4), word("z"+long.Text[:38], 1))
		d := dict(t, l...)
		mixes := mixedMixes(seed, 20*(seed%3), "abcd")
		for i := range 4 {
			text := mixedText(seed-i, 30*i, "abcd")
			all := nearByPromise(text, l, mixes, 10000)
			got, e := d.Near(text, mixes, 10000)
			wantList(t, text, got, e, all)
			wantBest(t, d, text, mixes, 10000, all)
		}
	}
}

// wantBest wants what P112 makes of these guesses.
func wantBest(t *testing.T, d *words.Dict, text string, l []api.Mix, most int, near []api.Guess) {
	t.Helper()
	best, n, e := d.Best(text, l, most)
	if len(near) == 1 || len(near) > 1 && (near[0].Distance < near[1].Distance || near[0].Count >= 2*near[1].Count) {
		if best != near[0].Text || n != near[0].Distance || e != api.OK {
			t.Error("Best", text, most, best, n, e, near)
		}
	} else if best != "" || n != 0 || e != api.ErrNone {
		t.Error("Best", text, most, best, n, e, near)
	}
}

func TestBest(t *testing.T) {
	for _, c := range []struct {
		dict []api.Word
		text string
		most int
		want string
		n    int
	}{
		{nil, "a", 10000, "", 0}, {[]api.Word{word("ab", 1)}, "cd", 199, "", 0}, {[]api.Word{word("ab", 1)}, "cd", 200, "ab", 200},
		{[]api.Word{word("ab", 1)}, "ab", 0, "ab", 0}, {[]api.Word{word("ab", 1), word("ac", 100)}, "ab", 100, "ab", 0},
		{[]api.Word{word("ab", 1), word("ac", 1)}, "ad", 99, "", 0}, {[]api.Word{word("ab", 1), word("ac", 1)}, "ad", 100, "", 0},
		{[]api.Word{word("ab", 1), word("ac", 2)}, "ad", 100, "ac", 100}, {[]api.Word{word("ab", 2), word("ac", 1)}, "ad", 100, "ab", 100},
		{[]api.Word{word("ab", 4), word("ac", 7)}, "ad", 100, "", 0}, {[]api.Word{word("ab", 4), word("ac", 8)}, "ad", 100, "ac", 100},
		{[]api.Word{word("ab", 4), word("ac", 8), word("af", 4)}, "ad", 100, "ac", 100}, {[]api.Word{word("ab", 4), word("ac", 8), word("af", 5)}, "ad", 100, "", 0},
		{[]api.Word{word("ab", 500_000_000), word("ac", 1_000_000_000)}, "ad", 100, "ac", 100},
		{[]api.Word{word("ab", 500_000_001), word("ac", 1_000_000_000)}, "ad", 100, "", 0},
		// A word that is nearer stands ahead of all that are more frequent, also where those come first.
		{[]api.Word{word("aaaa", 900), word("aaab", 900), word("abcd", 1)}, "abc", 10000, "abcd", 100},
		{[]api.Word{word("abcd", 1), word("zzzz", 900), word("zzzy", 900)}, "abc", 10000, "abcd", 100},
		{[]api.Word{word("aaaa", 900), word("abcd", 1), word("abce", 1)}, "abc", 10000, "", 0},
	} {
		got, n, e := dict(t, c.dict...).Best(c.text, nil, c.most)
		want := api.OK
		if c.want == "" {
			want = api.ErrNone
		}
		if got != c.want || n != c.n || e != want {
			t.Error(c.dict, c.text, c.most, got, n, e)
		}
	}
	d := dict(t, word("corn", 1), word("coin", 100))
	if got, n, e := d.Best("com", []api.Mix{mix("rn", "m", 10), mix("in", "m", 11)}, 100); got != "corn" || n != 10 || e != api.OK {
		t.Error(got, n, e)
	}
}

func TestNearErrors(t *testing.T) {
	long := strings.Repeat("a", 201)
	for _, d := range []*words.Dict{dict(t), dict(t, word("a", 1)), plainDict(t, "b", "c")} {
		fail := func(what, text string, l []api.Mix, most int, want api.Errno) {
			t.Helper()
			g, e := d.Near(text, l, most)
			failList(t, what, g, e, want)
			if best, n, e := d.Best(text, l, most); best != "" || n != 0 || e != want {
				t.Error("Best", what, best, n, e, want)
			}
		}
		for _, most := range wrongNumbers(0, 10000) {
			for _, bad := range append(eachBadMixes(), badMixes{}) {
				fail("most", "a", bad.l, most, api.ErrRange)
				fail("most", long, bad.l, most, api.ErrRange)
			}
		}
		for _, bad := range append(eachBadMixes(), badMixes{}) {
			fail("a long word", long, bad.l, 10000, api.ErrLarge)
			fail("a long word", strings.Repeat("b", 1000), bad.l, 0, api.ErrLarge)
		}
		for _, bad := range eachBadMixes() {
			for _, text := range []string{"", "a", "x y", long[1:]} {
				fail("mixes", text, bad.l, 0, bad.want)
				fail("mixes", text, bad.l, 10000, bad.want)
			}
		}
	}
}
