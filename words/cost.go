package words

import (
	"slices"
	"strings"

	"flatbed/api"
)

const (
	wrong       = 100 // the cost of a byte that stands alone, or for another one
	maxCompared = 2000
)

// A swap is a mix in one direction, for a text a that has its old part: how many bytes that has, and where it ends.
type swap struct {
	fresh string
	old   int
	ends  []int
	cost  int
}

// costs tells how texts are made of a text a: column j tells, for the first j bytes of such a text, what it costs at
// least to make them of each beginning of a, and least has the least of each column.
type costs struct {
	a       string
	columns [][]int
	least   []int
	swaps   [256][]swap // by the last byte of the fresh part
	reach   int         // the bytes that a part takes at most of such a text
}

// newCosts makes columns for texts of at most size bytes. A column goes into the memory of that which stands kept ahead
// of it, so kept must be greater than reach can be.
func newCosts(a string, l []api.Mix, size, kept int) *costs {
	c := &costs{a: a, columns: make([][]int, size+1), least: make([]int, size+1), reach: 1}
	for j := range c.columns {
		if j < kept {
			c.columns[j] = make([]int, len(a)+1)
		} else {
			c.columns[j] = c.columns[j-kept]
		}
	}
	for i := range c.columns[0] {
		c.columns[0][i] = i * wrong
	}
	for _, m := range l {
		c.addSwap(m.From, m.To, m.Cost)
		c.addSwap(m.To, m.From, m.Cost)
	}
	return c
}

func (c *costs) addSwap(old, fresh string, cost int) {
	ends := endsOf(c.a, old)
	if len(ends) == 0 {
		return
	}
	last := fresh[len(fresh)-1]
	c.swaps[last] = append(c.swaps[last], swap{fresh: fresh, old: len(old), ends: ends, cost: cost})
	c.reach = max(c.reach, len(fresh))
}

// endsOf returns the places behind a part of a text, wherever it stands.
func endsOf(text, part string) []int {
	var ends []int
	for from := 0; ; {
		i := strings.Index(text[from:], part)
		if i < 0 {
			return ends
		}
		ends = append(ends, from+i+len(part))
		from += i + 1
	}
}

// fill makes column j of a text by those ahead of it. Bytes of a alone come last, as they go on from the same column.
func (c *costs) fill(text string, j int) {
	column, before, last := c.columns[j], c.columns[j-1], text[j-1]
	column[0] = before[0] + wrong
	for i := range len(c.a) {
		each := before[i]
		if c.a[i] != last {
			each += wrong
		}
		column[i+1] = min(each, before[i+1]+wrong)
	}
	for _, s := range c.swaps[last] {
		if !strings.HasSuffix(text[:j], s.fresh) {
			continue
		}
		from := c.columns[j-len(s.fresh)]
		for _, i := range s.ends {
			column[i] = min(column[i], from[i-s.old]+s.cost)
		}
	}
	least := column[0]
	for i := range len(c.a) {
		column[i+1] = min(column[i+1], column[i]+wrong)
		least = min(least, column[i+1])
	}
	c.least[j] = least
}

// whole is what it costs to make the first j bytes of all of a.
func (c *costs) whole(j int) int { return c.columns[j][len(c.a)] }

// beyond reports whether each text that begins with the first j bytes costs more than most: no part is long enough to go
// past all of the last columns.
func (c *costs) beyond(j, most int) bool {
	return j >= c.reach && slices.Min(c.least[j-c.reach+1:j+1]) > most
}

// leastCost is that of making b of a.
func leastCost(a, b string, l []api.Mix) int {
	c := newCosts(a, l, len(b), maxPart+1)
	for j := range len(b) {
		c.fill(b, j+1)
	}
	return c.whole(len(b))
}

// Distance returns the least cost of making b of a.
func Distance(a, b string, l []api.Mix) (int, api.Errno) {
	if e := checkPair(a, b, l); e != api.OK {
		return 0, e
	}
	return leastCost(a, b, l), api.OK
}

func checkPair(a, b string, l []api.Mix) api.Errno {
	if len(a) > api.MaxWord || len(b) > api.MaxWord {
		return api.ErrLarge
	}
	return CheckMixes(l)
}

// Script returns where a and b differ, by parts that have the least cost.
func Script(a, b string, l []api.Mix) ([]api.Slip, api.Errno) {
	if e := checkPair(a, b, l); e != api.OK {
		return nil, e
	}
	rest := restCosts(a, b, l)
	var slips []api.Slip
	for i, j := 0, 0; i < len(a) || j < len(b); {
		parts := partsAt(a[i:], b[j:], l)
		n := slices.IndexFunc(parts, func(p api.Slip) bool {
			return p.Cost+rest(i+len(p.Old), j+len(p.New)) == rest(i, j)
		})
		p := parts[n]
		if p.Old != p.New {
			p.At = i
			slips = append(slips, p)
		}
		i += len(p.Old)
		j += len(p.New)
	}
	return slips, api.OK
}

// restCosts returns a function for the cost of making b of a, both from a place on. As columns are made from the left, the
// texts and mixes are turned round.
func restCosts(a, b string, l []api.Mix) func(i, j int) int {
	round := make([]api.Mix, 0, len(l))
	for _, m := range l {
		round = append(round, api.Mix{From: reversed(m.From), To: reversed(m.To), Cost: m.Cost})
	}
	c, text := newCosts(reversed(a), round, len(b), len(b)+1), reversed(b)
	for j := range len(b) {
		c.fill(text, j+1)
	}
	return func(i, j int) int { return c.columns[len(b)-j][len(a)-i] }
}

func reversed(text string) string {
	b := []byte(text)
	slices.Reverse(b)
	return string(b)
}

// partsAt returns the parts that can be taken of the beginnings of a and b, in the order in which Script prefers them.
func partsAt(a, b string, l []api.Mix) []api.Slip {
	var parts []api.Slip
	add := func(old, fresh string, cost int) {
		if strings.HasPrefix(a, old) && strings.HasPrefix(b, fresh) {
			parts = append(parts, api.Slip{Old: old, New: fresh, Cost: cost})
		}
	}
	firstA, firstB := a[:min(1, len(a))], b[:min(1, len(b))]
	if firstA == firstB {
		add(firstA, firstB, 0)
	}
	for _, m := range l {
		add(m.From, m.To, m.Cost)
		add(m.To, m.From, m.Cost)
	}
	// At the end of a text, these have nothing of it. One that has nothing of both is never taken, as it only costs.
	add(firstA, firstB, wrong)
	add(firstA, "", wrong)
	add("", firstB, wrong)
	return parts
}

// Errors compares a text that was read with the right one: how many bytes it differs by, and how many words are missed.
func Errors(read, right string) (int, int, api.Errno) {
	if len(read) > maxCompared || len(right) > maxCompared {
		return 0, 0, api.ErrLarge
	}
	seen, missed := wordsOf(read), 0
	for i, word := range wordsOf(right) {
		if i >= len(seen) || seen[i] != word {
			missed++
		}
	}
	return leastCost(read, right, nil) / wrong, missed, api.OK
}
