package bar_test

import (
	"cmp"
	"slices"
	"strings"
	"testing"

	"flatbed/api"
	"flatbed/bar"
	"flatbed/page"
)

// voteByPromise is Vote for codes without an error.
func voteByPromise(l []api.Code) []api.Code {
	var together []api.Code
	for i, c := range l {
		same := func(d api.Code) bool { return d.Kind == c.Kind && d.Text == c.Text }
		if slices.ContainsFunc(l[:i], same) {
			continue
		}
		right := c.X + c.W
		c.Count = 0
		for _, d := range l {
			if same(d) {
				c.X, c.Y, right = min(c.X, d.X), min(c.Y, d.Y), max(right, d.X+d.W)
				c.Count += d.Count
			}
		}
		c.W = right - c.X
		together = append(together, c)
	}
	slices.SortFunc(together, func(a, b api.Code) int {
		if a.Y != b.Y {
			return a.Y - b.Y
		}
		if a.X != b.X {
			return a.X - b.X
		}
		return cmp.Or(strings.Compare(a.Text, b.Text), a.Kind-b.Kind)
	})
	return together
}

func TestVote(t *testing.T) {
	for _, c := range []struct{ l, want []api.Code }{
		{nil, nil},
		{[]api.Code{seen(2, "A", 3, 4, 5, 6)}, []api.Code{seen(2, "A", 3, 4, 5, 6)}},
		{[]api.Code{seen(1, "", 0, 0, 0, 1)}, []api.Code{seen(1, "", 0, 0, 0, 1)}},
		{[]api.Code{seen(2, "A", 3, 4, 5, 6), seen(2, "A", 3, 4, 5, 6)}, []api.Code{seen(2, "A", 3, 4, 5, 12)}},
		// The least X and Y, and the greatest right edge, are those of different ones.
		{[]api.Code{seen(1, "a", 30, 2, 10, 1), seen(1, "a", 9, 8, 12, 1), seen(1, "a", 20, 5, 15, 1)}, []api.Code{seen(1, "a", 9, 2, 31, 3)}},
		{[]api.Code{seen(1, "a", 5, 1, 100, 1), seen(1, "a", 50, 2, 10, 1)}, []api.Code{seen(1, "a", 5, 1, 100, 2)}},
		{[]api.Code{seen(2, "a", 4000, 4000, 4000, 1000000), seen(2, "a", 0, 0, 0, 1000000)}, []api.Code{seen(2, "a", 0, 0, 8000, 2000000)}},
		// Another kind or text is another code; small letters are others, too.
		{[]api.Code{seen(1, "a", 0, 0, 1, 1), seen(2, "a", 0, 0, 2, 1)}, []api.Code{seen(1, "a", 0, 0, 1, 1), seen(2, "a", 0, 0, 2, 1)}},
		{[]api.Code{seen(2, "a", 0, 0, 1, 1), seen(1, "a", 0, 0, 2, 1)}, []api.Code{seen(1, "a", 0, 0, 2, 1), seen(2, "a", 0, 0, 1, 1)}},
		{[]api.Code{seen(1, "a", 0, 0, 1, 1), seen(1, "A", 0, 0, 2, 1)}, []api.Code{seen(1, "A", 0, 0, 2, 1), seen(1, "a", 0, 0, 1, 1)}},
		// The order is that of Y, of X, of the text, of the kind, each ahead of the others.
		{
			[]api.Code{seen(2, "z", 1, 1, 9, 9), seen(1, "b", 0, 2, 1, 1), seen(1, "y", 2, 1, 1, 1), seen(2, "a", 1, 1, 9, 9), seen(1, "z", 1, 1, 9, 9), seen(2, "b", 9, 0, 1, 1)},
			[]api.Code{seen(2, "b", 9, 0, 1, 1), seen(2, "a", 1, 1, 9, 9), seen(1, "z", 1, 1, 9, 9), seen(2, "z", 1, 1, 9, 9), seen(1, "y", 2, 1, 1, 1), seen(1, "b", 0, 2, 1, 1)},
		},
		{[]api.Code{seen(1, "b", 0, 0, 1, 1), seen(1, "ba", 0, 0, 1, 1), seen(1, "\xff", 0, 0, 1, 1), seen(1, "", 0, 0, 1, 1), seen(1, "B\x00", 0, 0, 1, 1)},
			[]api.Code{seen(1, "", 0, 0, 1, 1), seen(1, "B\x00", 0, 0, 1, 1), seen(1, "b", 0, 0, 1, 1), seen(1, "ba", 0, 0, 1, 1), seen(1, "\xff", 0, 0, 1, 1)}},
		// A code that comes first by what it is joined with.
		{[]api.Code{seen(1, "a", 5, 5, 1, 1), seen(1, "b", 4, 4, 1, 1), seen(1, "a", 6, 3, 1, 1)}, []api.Code{seen(1, "a", 5, 3, 2, 2), seen(1, "b", 4, 4, 1, 1)}},
	} {
		l, e := bar.Vote(c.l)
		wantList(t, "Vote", l, e, c.want)
		slices.Reverse(c.l)
		l, e = bar.Vote(c.l)
		wantList(t, "Vote backwards", l, e, c.want)
	}
}

func seen(kind int, text string, x, y, w, count int) api.Code {
	return api.Code{Kind: kind, Text: text, X: x, Y: y, W: w, Count: count}
}

func mixedCodes(seed, count, texts int) []api.Code {
	l := make([]api.Code, count)
	for i := range l {
		n := func(k int) int { return number(seed+k, i) }
		l[i] = api.Code{Kind: 1 + n(0)%2, Text: letterText(n(1)%texts, n(1)%7), X: n(2) % 9, Y: n(3) % 9, W: n(4) % 20, Count: 1 + n(5)}
	}
	return l
}

func TestVoteMixed(t *testing.T) {
	for seed, count := range []int{1, 2, 5, 9, 30, 100, 300, 1000, 3000} {
		for _, texts := range []int{1, 3, 20, 256} {
			in := mixedCodes(10*seed, count, texts)
			l, e := bar.Vote(in)
			wantList(t, "Vote", l, e, voteByPromise(in))
			again, e := bar.Vote(l)
			wantList(t, "Vote of Vote", again, e, l)
			half, _ := bar.Vote(in[:count/2])
			again, e = bar.Vote(slices.Concat(half, in[count/2:]))
			wantList(t, "Vote by halves", again, e, l)
		}
	}
}

// goodCode and changed ones are what Vote takes, or not.
func goodCode() api.Code { return api.Code{Kind: 2, Text: "A", X: 1, Y: 2, W: 3, Count: 4} }

// badCodes are codes with each error, in all of its ways.
func badCodes() map[api.Code]api.Errno {
	bad := map[api.Code]api.Errno{}
	for _, n := range append(wrongNumbers(1, 2), 0, 3, 256+1) {
		c := goodCode()
		c.Kind = n
		bad[c] = api.ErrKind
		c.X, c.Y, c.W, c.Count = -1, 4001, -1, 0
		bad[c] = api.ErrKind
	}
	for _, n := range wrongNumbers(0, 4000) {
		for field := range 3 {
			c := goodCode()
			*[]*int{&c.X, &c.Y, &c.W}[field] = n
			bad[c] = api.ErrRange
		}
	}
	for _, n := range append(wrongNumbers(1, 1000000), 0) {
		c := goodCode()
		c.Count = n
		bad[c] = api.ErrRange
	}
	return bad
}

func TestVoteBad(t *testing.T) {
	good := goodCode()
	other := map[api.Errno]api.Code{api.ErrKind: {Kind: 1, Count: -1}, api.ErrRange: {Kind: 3, Count: 1}}
	for c, want := range badCodes() {
		for _, l := range [][]api.Code{{c}, {good, c}, {c, good}, {good, good, c, good}, {good, c, other[want]}, append(slices.Repeat([]api.Code{good}, 10000), c), slices.Repeat([]api.Code{c}, 10001)} {
			got, e := bar.Vote(l)
			failList(t, "Vote", got, e, want)
		}
	}
	for _, c := range []api.Code{seen(1, "", 0, 0, 0, 1), seen(2, strings.Repeat("x", 1000), 4000, 4000, 4000, 1000000)} {
		l, e := bar.Vote([]api.Code{c})
		wantList(t, "Vote", l, e, []api.Code{c})
	}
}

func TestVoteLarge(t *testing.T) {
	c := api.Code{Kind: 1, Text: "x", X: 4000, Y: 4000, W: 4000, Count: 1000000}
	l, e := bar.Vote(slices.Repeat([]api.Code{c}, 10000))
	c.Count = 1000000 * 10000
	wantList(t, "Vote", l, e, []api.Code{c})
	for _, n := range []int{10001, 10002, 20000, 1 << 16, 1 << 20} {
		l, e := bar.Vote(slices.Repeat([]api.Code{goodCode()}, n))
		failList(t, "Vote", l, e, api.ErrLarge)
	}
	var many []api.Code
	for i := range 10001 {
		many = append(many, api.Code{Kind: 1 + i%2, Text: strings.Repeat("a", i%97) + letterText(i, 5), X: i % 4001, Y: i % 4, W: 1, Count: 1})
	}
	l, e = bar.Vote(many[:10000])
	wantList(t, "Vote", l, e, voteByPromise(many[:10000]))
	l, e = bar.Vote(many)
	failList(t, "Vote", l, e, api.ErrLarge)
}

// TestFind has codes that lie over several rows, each at its place.
func TestFind(t *testing.T) {
	digits := digits13(t, 7)
	p := plain(600, 40, false)
	for _, c := range []struct {
		b    api.Bits
		x, y int
	}{
		{drawn(t, modulesEAN(t, digits), 2, 10, 0), 100, 5},
		{drawn(t, modules39(t, "A-1"), 1, 7, 0), 400, 8},
		{turned(drawn(t, modules39(t, "A-1"), 2, 3, 0)), 300, 30},
		{turned(drawn(t, modulesEAN(t, digits), 1, 1, 0)), 10, 39},
		{drawn(t, modules39(t, "Z"), 1, 2, 0), 0, 0},
		{drawn(t, modules39(t, "Y"), 1, 2, 0), 500, 0},
	} {
		var e api.Errno
		if p, e = page.Paste(p, c.b, c.x, c.y); e != api.OK {
			t.Fatal(e)
		}
	}
	for step, want := range map[int][]api.Code{
		1: {
			seen(api.Code39, "Z", 0, 0, 63, 2), seen(api.Code39, "Y", 500, 0, 63, 2), seen(api.CodeEAN, digits, 10, 5, 280, 11), seen(api.Code39, "A-1", 300, 8, 195, 10),
		},
		3: {
			seen(api.Code39, "Z", 0, 0, 63, 1), seen(api.Code39, "Y", 500, 0, 63, 1), seen(api.CodeEAN, digits, 10, 6, 280, 4), seen(api.Code39, "A-1", 300, 9, 195, 3),
		},
		13: {seen(api.Code39, "Z", 0, 0, 63, 1), seen(api.Code39, "Y", 500, 0, 63, 1), seen(api.CodeEAN, digits, 10, 13, 280, 2), seen(api.Code39, "A-1", 400, 13, 95, 1)},
		38: {seen(api.Code39, "Z", 0, 0, 63, 1), seen(api.Code39, "Y", 500, 0, 63, 1)},
		39: {seen(api.Code39, "Z", 0, 0, 63, 1), seen(api.Code39, "Y", 500, 0, 63, 1), seen(api.CodeEAN, digits, 10, 39, 95, 1)},
		40: {seen(api.Code39, "Z", 0, 0, 63, 1), seen(api.Code39, "Y", 500, 0, 63, 1)}, 4000: {seen(api.Code39, "Z", 0, 0, 63, 1), seen(api.Code39, "Y", 500, 0, 63, 1)},
	} {
		l, e := bar.Find(p, step)
		wantList(t, "Find", l, e, want)
	}
	for step := 1; step <= 41; step++ {
		var all []api.Code
		for y := 0; y < p.H; y += step {
			row, e := bar.ReadRow(p, y)
			if e != api.OK {
				t.Fatal(e)
			}
			all = append(all, row...)
		}
		l, e := bar.Find(p, step)
		wantList(t, "Find", l, e, voteByPromise(all))
	}
}

func TestFindSteps(t *testing.T) {
	for _, b := range []api.Bits{draw("#"), drawn(t, modules39(t, "A"), 1, 3, 1), plain(1, 4000, true)} {
		for _, n := range append(wrongNumbers(1, 4000), 0) {
			l, e := bar.Find(b, n)
			failList(t, "Find", l, e, api.ErrRange)
		}
	}
	tall := drawn(t, modules39(t, "A"), 1, 4000, 1)
	for _, step := range []int{1, 2, 7, 1999, 2000, 3999, 4000} {
		l, e := bar.Find(tall, step)
		wantList(t, "tall", l, e, []api.Code{seen(api.Code39, "A", 1, 0, 63, (4000+step-1)/step)})
	}
}

// TestFindLarge has as many codes in a page as there can be, or as many as Find takes.
func TestFindLarge(t *testing.T) {
	one := drawn(t, modules39(t, "A"), 1, 1, 1).P[1:]
	crowded := func(w, h, inRow, rows, inLast int) api.Bits {
		b := plain(w, h, false)
		for y := range rows + 1 {
			count := inRow
			if y == rows {
				count = inLast
			}
			for i := range count {
				copy(b.P[y*w+64*i:], one)
			}
		}
		return b
	}
	b := crowded(4000, 201, 50, 200, 0)
	l, e := bar.Find(b, 1)
	wantList(t, "10000", l, e, []api.Code{seen(api.Code39, "A", 0, 0, 50*64-1, 10000)})
	b = crowded(4000, 201, 50, 200, 1)
	l, e = bar.Find(b, 1)
	failList(t, "10001", l, e, api.ErrLarge)
	l, e = bar.Find(b, 4001)
	failList(t, "10001", l, e, api.ErrRange)
	l, e = bar.Find(b, 2)
	wantList(t, "each second row", l, e, []api.Code{seen(api.Code39, "A", 0, 0, 50*64-1, 5001)})
	b = crowded(4000, 262, 62, 261, 62)
	l, e = bar.Find(b, 1)
	failList(t, "full", l, e, api.ErrLarge)
	l, e = bar.Find(b, 2)
	wantList(t, "full", l, e, []api.Code{seen(api.Code39, "A", 0, 0, 62*64-1, 62*131)})
}

// TestLargePages are pages without codes that give as much to do as there is.
func TestLargePages(t *testing.T) {
	star := runsOf(whole39("*"), 1)
	almost := slices.Concat(star, []int{1}, runsOf(whole39(strings.Repeat("A", 42)), 1), []int{1})
	for _, runs := range [][]int{{1, 1}, {2, 1}, {1, 3}, append(slices.Clone(star), 1), almost} {
		row := rowOf(append([]int{0}, slices.Repeat(runs, 4000/len(runs)+1)...)...).P[:4000]
		b := api.Bits{W: 4000, H: 262, P: slices.Repeat(row, 262)}
		l, e := bar.Find(b, 1)
		wantList(t, "large", l, e, nil)
	}
	for seed := 2; seed < 4; seed++ {
		row := rowOf(append([]int{0}, mixedRuns(seed, 1000, seed)...)...).P[:1000]
		b := api.Bits{W: 1000, H: 1000, P: slices.Repeat(row, 1000)}
		l, e := bar.Find(b, 1)
		wantList(t, "mixed", l, e, voteByPromise(slices.Repeat(readByPromise(api.Bits{W: 1000, H: 1, P: row}, 0), 1000)))
	}
	for _, size := range [][2]int{{1, 1}, {4000, 262}, {262, 4000}, {1024, 1024}, {1, 4000}, {4000, 1}} {
		for _, ink := range []bool{false, true} {
			l, e := bar.Find(plain(size[0], size[1], ink), 1)
			wantList(t, "plain", l, e, nil)
		}
	}
}
