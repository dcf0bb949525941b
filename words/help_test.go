package words_test

import (
	"fmt"
	"slices"
	"strings"
	"testing"

	"flatbed/api"
	"flatbed/words"
)

const (
	mostInt  = 1<<63 - 1
	leastInt = -1 << 63
	maxText  = 1 << 20
)

// number is one from 0 to 255 that hangs on its arguments only, and looks alike nowhere.
func number(seed, i int) int {
	x := uint32(i)*2654435761 + uint32(seed)*40503
	return int((x ^ x>>15) * 2246822519 >> 24)
}

// mixedText has n of some bytes.
func mixedText(seed, n int, bytes string) string {
	b := make([]byte, n)
	for i := range b {
		b[i] = bytes[number(seed, i)%len(bytes)]
	}
	return string(b)
}

// mixedMixes have parts of some bytes, and costs of all kinds.
func mixedMixes(seed, count int, bytes string) []api.Mix {
	var l []api.Mix
	costs := []int{0, 5, 20, 50, 99, 100}
	for i := 0; len(l) < count; i++ {
		from, to := mixedText(seed+i, 1+number(seed, i)%3, bytes), mixedText(seed-i-1, 1+number(seed+1, i)%3, bytes)
		same := func(m api.Mix) bool { return m.From == from && m.To == to }
		if from != to && !slices.ContainsFunc(l, same) {
			l = append(l, api.Mix{From: from, To: to, Cost: costs[number(seed+2, i)%len(costs)]})
		}
	}
	return l
}

// numberWord is a word that stands for a number.
func numberWord(n int) string {
	word := ""
	for ; n > 0 || word == ""; n /= 26 {
		word = string(byte('a'+n%26)) + word
	}
	return word
}

// A taken is a part that can be taken of two texts; rank tells which of several comes first.
type taken struct {
	old, fresh string
	cost, rank int
}

// takenByPromise are the parts that the beginnings of a and b have, as P110 names them, with the ranks of P111.
func takenByPromise(a, b string, l []api.Mix) []taken {
	var parts []taken
	if a != "" && b != "" && a[0] == b[0] {
		parts = append(parts, taken{a[:1], b[:1], 0, 0})
	}
	for i, m := range l {
		if strings.HasPrefix(a, m.From) && strings.HasPrefix(b, m.To) {
			parts = append(parts, taken{m.From, m.To, m.Cost, 1 + 2*i})
		}
		if strings.HasPrefix(a, m.To) && strings.HasPrefix(b, m.From) {
			parts = append(parts, taken{m.To, m.From, m.Cost, 2 + 2*i})
		}
	}
	if a != "" && b != "" {
		parts = append(parts, taken{a[:1], b[:1], 100, 1000})
	}
	if a != "" {
		parts = append(parts, taken{a[:1], "", 100, 1001})
	}
	if b != "" {
		parts = append(parts, taken{"", b[:1], 100, 1002})
	}
	return parts
}

// costByPromise is the least cost of all rows of parts.
func costByPromise(a, b string, l []api.Mix) int {
	known := map[[2]int]int{}
	var cost func(i, j int) int
	cost = func(i, j int) int {
		if i == len(a) && j == len(b) {
			return 0
		}
		least, ok := known[[2]int{i, j}]
		if !ok {
			least = mostInt
			for _, p := range takenByPromise(a[i:], b[j:], l) {
				least = min(least, p.cost+cost(i+len(p.old), j+len(p.fresh)))
			}
			known[[2]int{i, j}] = least
		}
		return least
	}
	return cost(0, 0)
}

// rowByPromise goes through all rows of parts that have the least cost, and returns the slips of the first one by ranks.
func rowByPromise(a, b string, l []api.Mix) []api.Slip {
	var best, row []taken
	var visit func(a, b string, left int)
	visit = func(a, b string, left int) {
		if left < 0 {
			return
		}
		if a == "" && b == "" {
			if best == nil || slices.CompareFunc(row, best, func(x, y taken) int { return x.rank - y.rank }) < 0 {
				best = slices.Clone(row)
			}
			return
		}
		for _, p := range takenByPromise(a, b, l) {
			row = append(row, p)
			visit(a[len(p.old):], b[len(p.fresh):], left-p.cost)
			row = row[:len(row)-1]
		}
	}
	visit(a, b, costByPromise(a, b, l))
	var slips []api.Slip
	at := 0
	for _, p := range best {
		if p.rank > 0 {
			slips = append(slips, api.Slip{At: at, Old: p.old, New: p.fresh, Cost: p.cost})
		}
		at += len(p.old)
	}
	return slips
}

func isLetter(c byte) bool { return c >= 'a' && c <= 'z' || c >= 'A' && c <= 'Z' || c >= 128 }

// small has a to z in the place of A to Z.
func small(text string) string {
	b := []byte(text)
	for i, c := range b {
		if c >= 'A' && c <= 'Z' {
			b[i] = c - 'A' + 'a'
		}
	}
	return string(b)
}

func great(text string) string {
	b := []byte(text)
	for i, c := range b {
		if c >= 'a' && c <= 'z' {
			b[i] = c - 'a' + 'A'
		}
	}
	return string(b)
}

func dict(t *testing.T, l ...api.Word) *words.Dict {
	t.Helper()
	d, e := words.NewDict(l)
	if e != api.OK || d == nil {
		t.Fatal("NewDict", e)
	}
	return d
}

// plainDict has words that all have the count 1.
func plainDict(t *testing.T, texts ...string) *words.Dict {
	t.Helper()
	var l []api.Word
	for _, text := range texts {
		l = append(l, api.Word{Text: text, Count: 1})
	}
	return dict(t, l...)
}

// wrongNumbers are outside of every range that does not reach to least and most, also if they are cut to 32 bits.
func wrongNumbers(least, most int) []int {
	return []int{least - 1, most + 1, -1 << 31, 1 << 31, 1 << 32, 1<<32 + most, -1 << 32, leastInt, leastInt + 1, mostInt, mostInt / 2}
}

// A badMixes has a list of mixes, and what is wrong with it.
type badMixes struct {
	l    []api.Mix
	want api.Errno
}

// eachBadMixes are lists of mixes with each of their errors.
func eachBadMixes() []badMixes {
	good := api.Mix{From: "x", To: "y", Cost: 1}
	bad := func(m api.Mix, want api.Errno) badMixes { return badMixes{[]api.Mix{good, m}, want} }
	return []badMixes{
		{slices.Repeat([]api.Mix{{}}, 201), api.ErrLarge},
		bad(api.Mix{To: "a"}, api.ErrForm),
		bad(api.Mix{From: "a", To: "a"}, api.ErrForm),
		bad(api.Mix{From: "a", To: "b", Cost: -1}, api.ErrRange),
		bad(api.Mix{From: "a", To: "b", Cost: 101}, api.ErrRange),
		bad(good, api.ErrTwice),
	}
}

// The following ones want a result, or an error and the zero value of what else is returned.

func wantList[T comparable](t *testing.T, what string, got []T, e api.Errno, want []T) {
	t.Helper()
	if e != api.OK || !slices.Equal(got, want) {
		t.Errorf("%.200s: error %d, got %.500s\nwant %.500s", what, e, fmt.Sprint(got), fmt.Sprint(want))
	}
}

func wantInt(t *testing.T, what string, got int, e api.Errno, want int) {
	t.Helper()
	if e != api.OK || got != want {
		t.Errorf("%.200s: got %d, error %d; want %d", what, got, e, want)
	}
}

func wantText(t *testing.T, what, got string, e api.Errno, want string) {
	t.Helper()
	if e != api.OK || got != want {
		t.Errorf("%.200s: error %d, got %.300q\nwant %.300q", what, e, got, want)
	}
}

func failList[T any](t *testing.T, what string, got []T, e, want api.Errno) {
	t.Helper()
	if e != want || len(got) != 0 {
		t.Errorf("%.200s: got %d of a list, error %d; want error %d alone", what, len(got), e, want)
	}
}

func failInt(t *testing.T, what string, got int, e, want api.Errno) {
	t.Helper()
	if e != want || got != 0 {
		t.Errorf("%.200s: got %d, error %d; want error %d alone", what, got, e, want)
	}
}

func failText(t *testing.T, what, got string, e, want api.Errno) {
	t.Helper()
	if e != want || got != "" {
		t.Errorf("%.200s: got %.100q, error %d; want error %d alone", what, got, e, want)
	}
}
