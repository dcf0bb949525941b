package clean

import (
	"slices"

	"flatbed/api"
	"flatbed/page"
)

const maxRounds = 1000

// Thin makes strokes thin, by at most most rounds, and returns how many of them took something away.
func Thin(b api.Bits, most int) (api.Bits, int, api.Errno) {
	if e := page.CheckBits(b); e != api.OK {
		return api.Bits{}, 0, e
	}
	if page.Outside(most, 0, maxRounds) {
		return api.Bits{}, 0, api.ErrRange
	}
	t := newThinner(b)
	rounds := 0
	for rounds < most && t.round() {
		rounds++
	}
	return api.Bits{W: b.W, H: b.H, P: t.ink}, rounds, api.OK
}

// A thinner knows for each of the two steps which pixels it has to look at: those around which something has changed
// since the step was made last. All others stay, as they did then; so a large page is not looked through in each round.
type thinner struct {
	w, h  int
	ink   []bool
	due   [2][]int
	isDue [2][]bool
}

func newThinner(b api.Bits) *thinner {
	t := &thinner{w: b.W, h: b.H, ink: slices.Clone(b.P)}
	for step := range t.due {
		t.isDue[step] = make([]bool, len(b.P))
	}
	for at := range b.P {
		t.look(at)
	}
	return t
}

// look has both steps look at a pixel, the next time.
func (t *thinner) look(at int) {
	if !t.ink[at] {
		return
	}
	for step := range t.due {
		if !t.isDue[step][at] {
			t.isDue[step][at] = true
			t.due[step] = append(t.due[step], at)
		}
	}
}

// round reports whether it took something away.
func (t *thinner) round() bool {
	first := t.step(0)
	second := t.step(1)
	return first || second
}

func (t *thinner) step(step int) bool {
	var gone []int
	for _, at := range t.due[step] {
		t.isDue[step][at] = false
		if t.ink[at] && goes(t.neighbours(at), step) {
			gone = append(gone, at)
		}
	}
	t.due[step] = t.due[step][:0]
	for _, at := range gone {
		t.ink[at] = false
	}
	for _, at := range gone {
		eachAround(t.w, t.h, at, ByNeighbours, func(_, place int) { t.look(place) })
	}
	return len(gone) > 0
}

// neighbours tells which ones are ink; those outside of the page are not.
func (t *thinner) neighbours(at int) [8]bool {
	var n [8]bool
	eachAround(t.w, t.h, at, ByNeighbours, func(i, place int) { n[i] = t.ink[place] })
	return n
}

// goes reports whether a pixel with these neighbours goes in a step.
func goes(n [8]bool, step int) bool {
	count, begins := 0, 0
	for i, ink := range n {
		if ink {
			count++
		} else if n[(i+1)%8] {
			begins++
		}
	}
	if page.Outside(count, 2, 6) || begins != 1 {
		return false
	}
	up, right, down, left := n[0], n[2], n[4], n[6]
	if step == 0 {
		return !(up && right && down) && !(right && down && left)
	}
	return !(up && right && left) && !(up && down && left)
}
