package skew

import (
	"flatbed/api"
	"flatbed/page"
)

// Profile returns how much ink each row has behind Lean by n, also rows above and below the page: row 0 is at H / 2.
func Profile(b api.Bits, n int) ([]int, api.Errno) {
	if e := checkLean(b, n); e != api.OK {
		return nil, e
	}
	return rowProfiles(b)(n), api.OK
}

// Score is the sum of the squares of Profile: the more ink is in the same rows, the greater it is.
func Score(b api.Bits, n int) (int, api.Errno) {
	profile, e := Profile(b, n)
	if e != api.OK {
		return 0, e
	}
	return squares(profile), api.OK
}

func squares(counts []int) int {
	sum := 0
	for _, n := range counts {
		sum += n * n
	}
	return sum
}

// Find tells by how much a page leans, at most by most to either side.
func Find(b api.Bits, most int) (int, api.Errno) {
	if e := checkFind(b, most); e != api.OK {
		return 0, e
	}
	profile := rowProfiles(b)
	return best(most, func(n int) int { return squares(profile(-n)) }), api.OK
}

// Straight leans a page back by what Find tells, and returns that, too.
func Straight(b api.Bits, most int) (api.Bits, int, api.Errno) {
	n, e := Find(b, most)
	if e != api.OK {
		return api.Bits{}, 0, e
	}
	c, e := Lean(b, -n)
	if e != api.OK {
		return api.Bits{}, 0, e
	}
	return c, n, api.OK
}

// FindSlant tells by how much a page is slanted, at most by most to either side. Slant by -n moves rows as Lean by n
// moves columns; other than with Find, ink that leaves the page does not count.
func FindSlant(b api.Bits, most int) (int, api.Errno) {
	if e := checkFind(b, most); e != api.OK {
		return 0, e
	}
	profile := profiles(b.H, b.W, func(x, y int) bool { return b.P[x*b.W+y] })
	first := b.W / 2
	return best(most, func(n int) int { return squares(profile(n)[first : first+b.W]) }), api.OK
}

func checkFind(b api.Bits, most int) api.Errno {
	if e := page.CheckBits(b); e != api.OK {
		return e
	}
	if page.Outside(most, 0, api.MaxLean) {
		return api.ErrRange
	}
	_, e := page.Bounds(b)
	return e
}

// best returns the n with the greatest score. It tries the least magnitudes first, and the positive n before the
// negative one, so that the first of several stays.
func best(most int, score func(n int) int) int {
	found, greatest := 0, score(0)
	consider := func(n int) {
		if s := score(n); s > greatest {
			found, greatest = n, s
		}
	}
	for magnitude := 1; magnitude <= most; magnitude++ {
		consider(magnitude)
		consider(-magnitude)
	}
	return found
}

func rowProfiles(b api.Bits) func(n int) []int {
	return profiles(b.W, b.H, func(x, y int) bool { return b.P[y*b.W+x] })
}

// profiles returns a function for the profiles of a page of w by h. Columns side by side that go equally far are counted
// together, by the ink that rows have before them: so many n can be tried with a large page.
func profiles(w, h int, ink func(x, y int) bool) func(n int) []int {
	before := inkBefore(w, h, ink)
	column := func(x int) []int { return before[x*h : (x+1)*h] }
	return func(n int) []int {
		counts := make([]int, 2*h)
		eachBand(shifts(w, n), func(from, to, down int) {
			addBand(counts, column(from), column(to), h/2+down)
		})
		return counts
	}
}

// inkBefore returns, column by column, how much ink each row has at the left of it. It is not kept row by row, as columns
// are what is read of it.
func inkBefore(w, h int, ink func(x, y int) bool) []int {
	before := make([]int, (w+1)*h)
	for x := range w {
		for y := range h {
			n := before[x*h+y]
			if ink(x, y) {
				n++
			}
			before[(x+1)*h+y] = n
		}
	}
	return before
}

// eachBand calls visit for all columns side by side that go equally far: from the first one to before to.
func eachBand(down []int, visit func(from, to, down int)) {
	from := 0
	for to := 1; to <= len(down); to++ {
		if to == len(down) || down[to] != down[from] {
			visit(from, to, down[from])
			from = to
		}
	}
}

// addBand adds the ink of each row of a band, from the element first on; what lies before or beyond counts is left out.
func addBand(counts, left, right []int, first int) {
	for y, n := range left {
		if at := first + y; at >= 0 && at < len(counts) {
			counts[at] += right[y] - n
		}
	}
}
