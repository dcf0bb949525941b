package clean_test

import (
	"testing"

	"flatbed/api"
	"flatbed/clean"
)

// thinByRounds is P31 word by word.
func thinByRounds(b api.Bits, most int) (api.Bits, int) {
	c := plain(b.W, b.H, false)
	copy(c.P, b.P)
	for round := range most {
		first := takeAway(c, [2][3]int{{1, 3, 5}, {3, 5, 7}})
		second := takeAway(c, [2][3]int{{1, 3, 7}, {1, 5, 7}})
		if first+second == 0 {
			return c, round
		}
	}
	return c, most
}

// takeAway makes a step, in which not all three of either triple are ink, and returns how many pixels went.
func takeAway(b api.Bits, triples [2][3]int) int {
	var gone []int
	for i, ink := range b.P {
		n := neighbours(b, i%b.W, i/b.W)
		count, turns := 0, 0
		for k := 1; k <= 8; k++ {
			if n[k] {
				count++
			}
			if !n[k] && n[k%8+1] {
				turns++
			}
		}
		all := func(l [3]int) bool { return n[l[0]] && n[l[1]] && n[l[2]] }
		if ink && count >= 2 && count <= 6 && turns == 1 && !all(triples[0]) && !all(triples[1]) {
			gone = append(gone, i)
		}
	}
	for _, i := range gone {
		b.P[i] = false
	}
	return len(gone)
}

// neighbours are n1 to n8; element 0 has no meaning.
func neighbours(b api.Bits, x, y int) [9]bool {
	ink := func(x, y int) bool { return x >= 0 && y >= 0 && x < b.W && y < b.H && b.P[y*b.W+x] }
	return [9]bool{
		1: ink(x, y-1), 2: ink(x+1, y-1), 3: ink(x+1, y), 4: ink(x+1, y+1),
		5: ink(x, y+1), 6: ink(x-1, y+1), 7: ink(x-1, y), 8: ink(x-1, y-1),
	}
}

func TestThin(t *testing.T) {
	for _, c := range []struct {
		from, want api.Bits
		rounds     int
	}{
		{draw("...", "###", "..."), draw("...", "###", "..."), 0},
		{draw("#"), draw("#"), 0},
		{draw("."), draw("."), 0},
		{draw("##"), draw("##"), 0},
		{plain(30, 20, false), plain(30, 20, false), 0},
		{draw("##", "##"), draw("..", ".."), 1},
		{draw(".......", ".#####.", ".#####.", ".#####.", "......."),
			draw(".......", ".......", "..##...", ".......", "......."), 1},
		// A thin ring and a thin stroke stay as they are.
		{draw(".#.", "#.#", ".#."), draw(".#.", "#.#", ".#."), 0},
		{draw("#...", ".#..", "..##"), draw("#...", ".#..", "..##"), 0},
	} {
		b, n := thinByRounds(c.from, 1000)
		wantCounted(t, "thinByRounds", b, n, api.OK, c.want, c.rounds)
		b, n, e := clean.Thin(c.from, 1000)
		wantCounted(t, "Thin", b, n, e, c.want, c.rounds)
	}
}

// TestThinRounds makes each number of rounds, from none to more than are needed.
func TestThinRounds(t *testing.T) {
	each := func(b api.Bits) {
		_, all := thinByRounds(b, 1000)
		for most := range all + 3 {
			want, rounds := thinByRounds(b, most)
			c, n, e := clean.Thin(b, most)
			wantCounted(t, "Thin", c, n, e, want, rounds)
		}
		want, _ := thinByRounds(b, 1000)
		c, n, e := clean.Thin(b, 1000)
		wantCounted(t, "Thin", c, n, e, want, all)
		c, n, e = clean.Thin(want, 1000)
		wantCounted(t, "Thin of Thin", c, n, e, want, 0)
	}
	eachMixed(each)
	for _, radius := range []int{1, 2, 4} {
		eachMixed(func(b api.Bits) {
			spread, _ := clean.Spread(mixedBits(b.W+20, b.H+20, byte(2+len(b.P)%9)), radius)
			each(spread)
		})
	}
	for _, size := range [][2]int{{1, 30}, {30, 1}, {2, 30}, {30, 2}, {3, 3}, {30, 30}, {45, 60}} {
		each(plain(size[0], size[1], true))
	}
}

// TestThinOfAllNeighbours has a page for each choice of neighbours of one pixel: both steps are tried with each.
func TestThinOfAllNeighbours(t *testing.T) {
	places := [8][2]int{{2, 1}, {3, 1}, {3, 2}, {3, 3}, {2, 3}, {1, 3}, {1, 2}, {1, 1}}
	for choice := range 256 {
		b := plain(5, 5, false)
		b.P[2*5+2] = true
		for k, place := range places {
			b.P[place[1]*5+place[0]] = choice>>k&1 == 1
		}
		for most := range 4 {
			want, rounds := thinByRounds(b, most)
			c, n, e := clean.Thin(b, most)
			wantCounted(t, "Thin", c, n, e, want, rounds)
		}
	}
}

func TestThinOutOfRange(t *testing.T) {
	for _, most := range wrongNumbers(0, 1000) {
		b, n, e := clean.Thin(draw("##", "##"), most)
		failCounted(t, "Thin", b, n, e, api.ErrRange)
	}
}
