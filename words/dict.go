package words

import (
	"cmp"
	"slices"
	"strings"

	"flatbed/api"
	"flatbed/page"
)

const (
	maxCount    = 1_000_000_000
	maxDistance = 10000
)

// Dict is a dictionary: its words in order, and the count of each one.
type Dict struct {
	words  []string
	counts map[string]int
}

// NewDict makes a dictionary.
func NewDict(l []api.Word) (*Dict, api.Errno) {
	if len(l) > api.MaxDict {
		return nil, api.ErrLarge
	}
	d := &Dict{counts: map[string]int{}}
	for _, w := range l {
		if !isWord(w.Text) {
			return nil, api.ErrForm
		}
		if page.Outside(w.Count, 1, maxCount) {
			return nil, api.ErrRange
		}
		if d.Has(w.Text) {
			return nil, api.ErrTwice
		}
		d.counts[w.Text] = w.Count
		d.words = append(d.words, w.Text)
	}
	slices.Sort(d.words)
	return d, api.OK
}

// Has reports whether the dictionary has a word, just as it is.
func (d *Dict) Has(word string) bool { return d.Count(word) > 0 }

// Count returns the count of a word, 0 if it is not there.
func (d *Dict) Count(word string) int { return d.counts[word] }

// knows reports whether the dictionary has a word as it is or with small letters.
func (d *Dict) knows(word string) bool { return d.Has(word) || d.Has(small(word)) }

// Begin returns the words that begin with a text, in order, at most most of them.
func (d *Dict) Begin(start string, most int) []string {
	var l []string
	at, _ := slices.BinarySearch(d.words, start)
	for _, word := range d.words[at:] {
		if len(l) >= most || !strings.HasPrefix(word, start) {
			break
		}
		l = append(l, word)
	}
	return l
}

// Near returns the words that are at most most from a word, the nearest and most frequent first.
func (d *Dict) Near(word string, l []api.Mix, most int) ([]api.Guess, api.Errno) {
	if e := checkNear(word, l, most); e != api.OK {
		return nil, e
	}
	var guesses []api.Guess
	d.search(word, l, most, func(g api.Guess) int {
		guesses = append(guesses, g)
		return most
	})
	slices.SortFunc(guesses, compareGuesses)
	return guesses, api.OK
}

func checkNear(word string, l []api.Mix, most int) api.Errno {
	if page.Outside(most, 0, maxDistance) {
		return api.ErrRange
	}
	return checkPair(word, "", l)
}

func compareGuesses(a, b api.Guess) int {
	return cmp.Or(cmp.Compare(a.Distance, b.Distance), cmp.Compare(b.Count, a.Count), cmp.Compare(a.Text, b.Text))
}

// Best returns the nearest word, and its distance, if no other one is as near, or it is much more frequent than those.
func (d *Dict) Best(word string, l []api.Mix, most int) (string, int, api.Errno) {
	if e := checkNear(word, l, most); e != api.OK {
		return "", 0, e
	}
	g, ok := d.best(word, l, most)
	if !ok {
		return "", 0, api.ErrNone
	}
	return g.Text, g.Distance, api.OK
}

// best looks only for words as near as the nearest one so far, as others cannot stand against it.
func (d *Dict) best(word string, l []api.Mix, most int) (api.Guess, bool) {
	var nearest []api.Guess
	d.search(word, l, most, func(g api.Guess) int {
		if len(nearest) > 0 && g.Distance < nearest[0].Distance {
			nearest = nearest[:0]
		}
		nearest = append(nearest, g)
		return g.Distance
	})
	slices.SortFunc(nearest, compareGuesses)
	if len(nearest) == 0 || len(nearest) > 1 && nearest[0].Count < 2*nearest[1].Count {
		return api.Guess{}, false
	}
	return nearest[0], true
}

// search calls visit for each word of the dictionary that is at most most from a word; visit tells how far the next ones
// can be. As the words are in order, those that begin alike stand together: what their beginning costs is found once, and
// if that is too much, they all are left out.
func (d *Dict) search(word string, l []api.Mix, most int, visit func(g api.Guess) int) {
	c := newCosts(word, l, longest, longest+1)
	filled, far := "", ""
	for _, text := range d.words {
		if far != "" && strings.HasPrefix(text, far) {
			continue
		}
		n := alike(filled, text)
		far = ""
		for n < len(text) && far == "" {
			n++
			c.fill(text, n)
			if c.beyond(n, most) {
				far = text[:n]
			}
		}
		filled = text[:n]
		if far == "" && c.whole(n) <= most {
			most = visit(api.Guess{Text: text, Distance: c.whole(n), Count: d.Count(text)})
		}
	}
}

// alike tells how many bytes at the beginning two texts have in common.
func alike(a, b string) int {
	n := 0
	for n < len(a) && n < len(b) && a[n] == b[n] {
		n++
	}
	return n
}
