package glyph

import (
	"flatbed/api"
	"flatbed/page"
)

const maxSamples = 100

// Learn makes a letter of samples, which takes the place of that with this text, or comes behind all others.
func Learn(f api.Font, text string, samples []api.Bits) (api.Font, api.Errno) {
	if e := Check(f); e != api.OK {
		return api.Font{}, e
	}
	if !isSpelling(text) {
		return api.Font{}, api.ErrForm
	}
	if e := checkSamples(samples, f.Height); e != api.OK {
		return api.Font{}, e
	}
	learned := withLetter(f, api.Letter{Text: text, Bits: trimmed(majority(samples))})
	if e := Check(learned); e != api.OK {
		return api.Font{}, e
	}
	return learned, api.OK
}

func checkSamples(samples []api.Bits, height int) api.Errno {
	if len(samples) == 0 {
		return api.ErrEmpty
	}
	if len(samples) > maxSamples {
		return api.ErrLarge
	}
	for _, b := range samples {
		if e := page.CheckBits(b); e != api.OK {
			return e
		}
		if b.H != height || b.W != samples[0].W {
			return api.ErrConflict
		}
	}
	return api.OK
}

// majority has ink where more than half of the samples have it.
func majority(samples []api.Bits) api.Bits {
	w, h := samples[0].W, samples[0].H
	p := page.Fill(w, h, func(x, y int) bool {
		inked := 0
		for _, b := range samples {
			if b.P[y*w+x] {
				inked++
			}
		}
		return 2*inked > len(samples)
	})
	return api.Bits{W: w, H: h, P: p}
}

// trimmed takes columns without ink away at both sides. Without any ink no column is left: that is no page.
func trimmed(b api.Bits) api.Bits {
	box, e := page.Bounds(b)
	if e != api.OK {
		return api.Bits{H: b.H}
	}
	p := page.Fill(box.W, b.H, func(x, y int) bool { return b.P[y*b.W+box.X+x] })
	return api.Bits{W: box.W, H: b.H, P: p}
}

// withLetter returns a font of its own with a letter.
func withLetter(f api.Font, letter api.Letter) api.Font {
	letters := make([]api.Letter, 0, len(f.Letters)+1)
	for _, l := range f.Letters {
		letters = append(letters, copied(l))
	}
	if at := indexOf(f, letter.Text); at >= 0 {
		letters[at] = letter
	} else {
		letters = append(letters, letter)
	}
	f.Letters = letters
	return f
}
