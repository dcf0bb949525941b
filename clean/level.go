package clean

import (
	"flatbed/api"
	"flatbed/page"
)

const (
	maxTimes       = 100
	maxLocalRadius = 100
	wholePart      = 1000
)

// Level finds a level between dark and light.
func Level(g api.Gray) (int, api.Errno) {
	counts, e := page.Histogram(g)
	if e != api.OK {
		return 0, e
	}
	least, greatest := extremes(counts)
	level := halfUp(least, greatest)
	for range maxTimes {
		dark, someDark := mean(counts, 0, level)
		light, someLight := mean(counts, level, len(counts))
		if !someDark || !someLight {
			break
		}
		next := halfUp(dark, light)
		if next == level {
			break
		}
		level = next
	}
	return level, api.OK
}

// halfUp is half of the sum, rounded up.
func halfUp(a, b int) int { return (a + b + 1) / 2 }

// extremes returns the least and the greatest value that occurs.
func extremes(counts []int) (least, greatest int) {
	least = len(counts)
	for v, count := range counts {
		if count > 0 {
			least, greatest = min(least, v), v
		}
	}
	return least, greatest
}

// mean is that of the values from from to before to, rounded down; it is not ok if none of them occurs.
func mean(counts []int, from, to int) (m int, ok bool) {
	sum, n := 0, 0
	for v := from; v < to; v++ {
		sum += v * counts[v]
		n += counts[v]
	}
	if n == 0 {
		return 0, false
	}
	return sum / n, true
}

// Auto returns a page with ink where the value is less than that of Level.
func Auto(g api.Gray) (api.Bits, api.Errno) {
	level, e := Level(g)
	if e != api.OK {
		return api.Bits{}, e
	}
	return page.ToBits(g, level)
}

// Local returns a page with ink where a pixel is darker, by part thousandths, than the mean of the square around it.
func Local(g api.Gray, radius, part int) (api.Bits, api.Errno) {
	if e := page.CheckGray(g); e != api.OK {
		return api.Bits{}, e
	}
	if page.Outside(radius, 1, maxLocalRadius) || page.Outside(part, 0, wholePart) {
		return api.Bits{}, api.ErrRange
	}
	value := func(x, y int) int { return int(g.P[y*g.W+x]) }
	square := page.Around(g.W, g.H, radius, value)
	p := page.Fill(g.W, g.H, func(x, y int) bool {
		sum, n := square(x, y)
		return value(x, y)*n*wholePart < sum*(wholePart-part)
	})
	return api.Bits{W: g.W, H: g.H, P: p}, api.OK
}
