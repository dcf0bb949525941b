package words_test

import (
	"strings"
	"testing"

	"flatbed/api"
	"flatbed/words"
)

func slip(at int, old, fresh string, cost int) api.Slip {
	return api.Slip{At: at, Old: old, New: fresh, Cost: cost}
}

func TestDistance(t *testing.T) {
	some := []api.Mix{mix("rn", "m", 10), mix("l", "i", 20), mix("cl", "d", 0), mix("iii", "m", 30), mix("m", "in", 40), mix(" ", "_", 100)}
	for _, c := range []struct {
		a, b string
		l    []api.Mix
		want int
	}{
		{"", "", nil, 0}, {"", "", some, 0}, {"a", "a", nil, 0}, {"", "abc", nil, 300}, {"abc", "", some, 300}, {"a", "b", nil, 100},
		{"A", "a", nil, 100}, {"abc", "acb", nil, 200}, {"kitten", "sitting", nil, 300}, {"\x00\xff", "\xff", nil, 100},
		{"\xc3\xa4", "\xc3\xb6", nil, 100}, {"ab", "ba", nil, 200}, {"abcde", "cde", nil, 200}, {"abab", "baba", nil, 200},
		// A mix counts in both directions, at every place, and as often as it is there.
		{"corn", "com", some, 10}, {"com", "corn", some, 10}, {"rnrnrn", "mmm", some, 30}, {"mmm", "rnrnrn", some, 30}, {"mrn", "rnm", some, 20},
		{"fill", "fiii", some, 40}, {"fill", "fiil", some, 20}, {"clod", "dod", some, 0}, {"clocl", "dod", some, 0}, {"d", "cl", some, 0},
		{"iii", "m", some, 30}, {"m", "iii", some, 30}, {"xiiix", "xmx", some, 30}, {"iiii", "m", some, 130},
		// What a mix makes is not read again: lli is not iii by a mix, and then m by another one.
		{"lli", "m", some, 300}, {"rn", "in", some, 100}, {"a b", "a_b", some, 100}, {"ab", "a_b", some, 100},
		// Parts do not overlap.
		{"aba", "xx", []api.Mix{mix("ab", "x", 0), mix("ba", "x", 0)}, 100}, {"abba", "xx", []api.Mix{mix("ab", "x", 0), mix("ba", "x", 0)}, 0},
		// A mix that costs more than bytes do is not taken; one that saves bytes is.
		{"abc", "xbc", []api.Mix{mix("abc", "xbc", 100)}, 100}, {"ab", "ax", []api.Mix{mix("ab", "ax", 99)}, 99},
		{"abc", "x", []api.Mix{mix("abc", "x", 100)}, 100}, {"abc", "xyz", []api.Mix{mix("abc", "xyz", 100)}, 100},
		{"aa", "a", []api.Mix{mix("aa", "a", 0)}, 0}, {"aaaaaaaa", "a", []api.Mix{mix("aa", "a", 0)}, 600}, {"aaaa", "aa", []api.Mix{mix("aa", "a", 0)}, 0},
		// Both directions have a cost of their own.
		{"a", "b", []api.Mix{mix("a", "b", 7), mix("b", "a", 3)}, 3}, {"b", "a", []api.Mix{mix("a", "b", 7), mix("b", "a", 30)}, 7},
		{"a", "b", []api.Mix{mix("a", "b", 0)}, 0}, {"a", "b", []api.Mix{mix("a", "b", 100)}, 100}, {"ab", "ba", []api.Mix{mix("a", "b", 1)}, 2},
	} {
		n, e := words.Distance(c.a, c.b, c.l)
		wantInt(t, c.a+"/"+c.b, n, e, c.want)
	}
}

// eachPair gives texts of a few bytes, so that much of them is alike, with few and many mixes.
func eachPair(count, most int, visit func(a, b string, l []api.Mix)) {
	for seed := range count {
		bytes := []string{"a", "ab", "abc", "ab\xff"}[seed%4]
		a := mixedText(seed, number(seed, 1)%(most+1), bytes)
		b := mixedText(seed+1, number(seed, 2)%(most+1), bytes)
		l := mixedMixes(seed, []int{0, 1, 2, 4, 9}[seed%5]*min(1, len(bytes)-1), bytes)
		visit(a, b, l)
	}
}

func TestDistanceByPromise(t *testing.T) {
	eachPair(2000, 14, func(a, b string, l []api.Mix) {
		n, e := words.Distance(a, b, l)
		wantInt(t, a+"/"+b, n, e, costByPromise(a, b, l))
		n, e = words.Distance(b, a, l)
		wantInt(t, b+"/"+a, n, e, costByPromise(a, b, l))
		n, e = words.Distance(a, a, l)
		wantInt(t, a, n, e, 0)
	})
	for seed := range 10 {
		a, b, l := mixedText(seed, 200, "abcd"), mixedText(seed+1, 200-seed, "abcd"), mixedMixes(seed, 200, "abcd")
		n, e := words.Distance(a, b, l)
		wantInt(t, "200 bytes", n, e, costByPromise(a, b, l))
	}
}

func TestScript(t *testing.T) {
	for _, c := range []struct {
		a, b string
		l    []api.Mix
		want []api.Slip
	}{
		{"", "", nil, nil}, {"abc", "abc", []api.Mix{mix("abc", "ab", 0)}, nil},
		{"abc", "", nil, []api.Slip{slip(0, "a", "", 100), slip(1, "b", "", 100), slip(2, "c", "", 100)}},
		{"", "ab", nil, []api.Slip{slip(0, "", "a", 100), slip(0, "", "b", 100)}},
		{"xay", "xby", nil, []api.Slip{slip(1, "a", "b", 100)}},
		{"modemx", "modern", []api.Mix{mix("rn", "m", 10)}, []api.Slip{slip(4, "m", "rn", 10), slip(5, "x", "", 100)}},
		{"burn", "bum", []api.Mix{mix("rn", "m", 0)}, []api.Slip{slip(2, "rn", "m", 0)}},
		// The same byte is taken first, if that costs as little.
		{"ab", "a", []api.Mix{mix("ab", "a", 100)}, []api.Slip{slip(1, "b", "", 100)}},
		{"a", "ab", []api.Mix{mix("ab", "a", 100)}, []api.Slip{slip(1, "", "b", 100)}},
		{"aab", "ab", nil, []api.Slip{slip(1, "a", "", 100)}}, {"ab", "aab", nil, []api.Slip{slip(1, "", "a", 100)}},
		{"ab", "a", []api.Mix{mix("ab", "a", 99)}, []api.Slip{slip(0, "ab", "a", 99)}},
		// Mixes come in the order of the list.
		{"ab", "xy", []api.Mix{mix("a", "x", 10), mix("b", "y", 10), mix("ab", "xy", 20)}, []api.Slip{slip(0, "a", "x", 10), slip(1, "b", "y", 10)}},
		{"ab", "xy", []api.Mix{mix("ab", "xy", 20), mix("a", "x", 10), mix("b", "y", 10)}, []api.Slip{slip(0, "ab", "xy", 20)}},
		{"ab", "xy", []api.Mix{mix("b", "y", 10), mix("ab", "xy", 20), mix("a", "x", 10)}, []api.Slip{slip(0, "ab", "xy", 20)}},
		{"ab", "xy", []api.Mix{mix("x", "a", 10), mix("b", "y", 10), mix("ab", "xy", 20)}, []api.Slip{slip(0, "a", "x", 10), slip(1, "b", "y", 10)}},
		{"ab", "xy", []api.Mix{mix("xy", "ab", 20), mix("a", "x", 10), mix("b", "y", 10)}, []api.Slip{slip(0, "ab", "xy", 20)}},
		// Of one mix, From to To comes ahead of To to From.
		{"xyp", "xyq", []api.Mix{mix("yp", "q", 0), mix("p", "yq", 0), mix("x", "xy", 0)}, []api.Slip{slip(0, "x", "xy", 0), slip(1, "yp", "q", 0)}},
		{"xyp", "xyq", []api.Mix{mix("yp", "q", 0), mix("p", "yq", 0), mix("xy", "x", 0)}, []api.Slip{slip(0, "xy", "x", 0), slip(2, "p", "yq", 0)}},
		// Mixes come ahead of bytes.
		{"ab", "cd", []api.Mix{mix("ab", "c", 100)}, []api.Slip{slip(0, "ab", "c", 100), slip(2, "", "d", 100)}},
		{"ab", "c", []api.Mix{mix("b", "c", 100), mix("a", "c", 100)}, []api.Slip{slip(0, "a", "c", 100), slip(1, "b", "", 100)}},
		// A byte of each comes ahead of one alone, one of a ahead of one of b.
		{"ab", "c", nil, []api.Slip{slip(0, "a", "c", 100), slip(1, "b", "", 100)}},
		{"a", "cd", nil, []api.Slip{slip(0, "a", "c", 100), slip(1, "", "d", 100)}},
		{"ab", "ba", nil, []api.Slip{slip(0, "a", "b", 100), slip(1, "b", "a", 100)}},
		{"abab", "baba", nil, []api.Slip{slip(0, "a", "", 100), slip(4, "", "a", 100)}},
	} {
		l, e := words.Script(c.a, c.b, c.l)
		wantList(t, c.a+"/"+c.b, l, e, c.want)
	}
}

// TestScriptByPromise goes through all rows of parts.
func TestScriptByPromise(t *testing.T) {
	eachPair(3000, 5, func(a, b string, l []api.Mix) {
		s, e := words.Script(a, b, l)
		wantList(t, a+"/"+b, s, e, rowByPromise(a, b, l))
	})
}

// TestScriptMakesB puts the slips into a: b comes out, and they cost as much as Distance says.
func TestScriptMakesB(t *testing.T) {
	check := func(a, b string, l []api.Mix) {
		s, e := words.Script(a, b, l)
		made, done, cost := "", 0, 0
		for _, p := range s {
			if p.Old == p.New || p.At < done || !strings.HasPrefix(a[p.At:], p.Old) {
				t.Fatal(a, b, s)
			}
			made += a[done:p.At] + p.New
			done = p.At + len(p.Old)
			cost += p.Cost
		}
		if made+a[done:] != b || e != api.OK {
			t.Error(a, b, s, e)
		}
		n, e := words.Distance(a, b, l)
		wantInt(t, a+"/"+b, cost, e, n)
	}
	eachPair(1000, 40, check)
	for seed := range 10 {
		check(mixedText(seed, 200, "abcd"), mixedText(seed+1, 200-seed, "abcd"), mixedMixes(seed, 200, "abcd"))
	}
}

func TestDistanceErrors(t *testing.T) {
	long := strings.Repeat("a", 200)
	n, e := words.Distance(long, long[1:]+"b", nil)
	wantInt(t, "200 bytes", n, e, 100)
	l, e := words.Script(long, long[1:]+"b", nil)
	wantList(t, "200 bytes", l, e, []api.Slip{slip(199, "a", "b", 100)})
	for _, c := range [][2]string{{long + "a", "a"}, {"a", long + "a"}, {long + "a", long + "a"}, {"", strings.Repeat("b", 456)}, {strings.Repeat("b", maxText), ""}} {
		for _, bad := range append(eachBadMixes(), badMixes{}) {
			n, e := words.Distance(c[0], c[1], bad.l)
			failInt(t, "too long", n, e, api.ErrLarge)
			l, e := words.Script(c[0], c[1], bad.l)
			failList(t, "too long", l, e, api.ErrLarge)
		}
	}
	for _, bad := range eachBadMixes() {
		for _, c := range [][2]string{{"", ""}, {"a", "a"}, {"a", "b"}, {long, long}} {
			n, e := words.Distance(c[0], c[1], bad.l)
			failInt(t, c[0], n, e, bad.want)
			l, e := words.Script(c[0], c[1], bad.l)
			failList(t, c[0], l, e, bad.want)
		}
	}
}

func TestErrors(t *testing.T) {
	for _, c := range []struct {
		read, right   string
		bytes, missed int
	}{
		{"", "", 0, 0}, {"the cat", "the cat", 0, 0}, {"the cut sat", "the cat sat", 1, 1}, {"", "the cat sat", 11, 3}, {"the cat sat", "", 11, 0},
		// Words count at their places among the words, wherever those are in the texts.
		{"the  cat", "the, cat", 1, 0}, {"12 the cat", "the cat 3", 5, 0}, {"a the cat", "the cat", 2, 2}, {"cat", "the cat", 4, 2},
		{"the cat sat", "the cat", 4, 0}, {"the cat", "the cat sat", 4, 1}, {"thecat", "the cat", 1, 2}, {"the cat", "thecat", 1, 1},
		{"The cat", "the cat", 1, 1}, {"'the' cat", "the cat", 2, 0}, {"dog's", "dogs", 1, 1}, {"rn", "m", 2, 1},
		{"a b c d", "a c b d", 2, 2}, {"\xff", "\xfe", 1, 1}, {"1", "2", 1, 0},
		{strings.Repeat("a", 41), strings.Repeat("a", 40), 1, 1}, {strings.Repeat("a", 40), strings.Repeat("a", 41), 1, 0},
	} {
		n, missed, e := words.Errors(c.read, c.right)
		if n != c.bytes || missed != c.missed || e != api.OK {
			t.Errorf("%q for %q: %d bytes, %d words, error %d; want %d and %d", c.read, c.right, n, missed, e, c.bytes, c.missed)
		}
	}
	eachPair(300, 60, func(a, b string, _ []api.Mix) {
		n, _, e := words.Errors(a, b)
		wantInt(t, a+"/"+b, n, e, costByPromise(a, b, nil)/100)
	})
}

func TestErrorsLarge(t *testing.T) {
	long := strings.Repeat("ab ", 667)[:2000]
	for _, c := range []struct {
		read, right   string
		bytes, missed int
	}{
		{long, long, 0, 0}, {long, "", 2000, 0}, {"", long, 2000, 667}, {long, " " + long[:1999], 2, 1}, {strings.Repeat("a", 2000), strings.Repeat("b", 2000), 2000, 0},
		{mixedText(1, 2000, "xyz"), mixedText(1, 2000, "xyz"), 0, 0},
	} {
		n, missed, e := words.Errors(c.read, c.right)
		if n != c.bytes || missed != c.missed || e != api.OK {
			t.Errorf("%.9q for %.9q: %d bytes, %d words, error %d", c.read, c.right, n, missed, e)
		}
	}
	for _, c := range [][2]string{{long + "a", long}, {long, long + "a"}, {long + "a", ""}, {"", long + "a"}, {strings.Repeat("a ", maxText), strings.Repeat("a ", maxText)}} {
		n, missed, e := words.Errors(c[0], c[1])
		if n != 0 || missed != 0 || e != api.ErrLarge {
			t.Error(len(c[0]), len(c[1]), n, missed, e)
		}
	}
}
