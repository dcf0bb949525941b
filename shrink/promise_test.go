package shrink_test

import (
	"encoding/binary"
	"hash/fnv"
	"math/big"
	"strings"

	"flatbed/api"
)

// The functions here are the promises, written out word by word, for arguments without errors.

func runsByPromise(r []bool) []int {
	var runs []int
	colour := false
	for from := 0; from < len(r); colour = !colour {
		to := from
		for to < len(r) && r[to] == colour {
			to++
		}
		runs = append(runs, to-from)
		from = to
	}
	return runs
}

func gammaByPromise(n int) string {
	digits := ""
	for ; n > 0; n /= 2 {
		digits = string(byte('0'+n%2)) + digits
	}
	return strings.Repeat("0", len(digits)-1) + digits
}

// changes reports whether a pixel differs from the one before it; to is the colour that it has.
func changes(r []bool, at int) (to, ok bool) {
	if at == 0 {
		return r[0], r[0]
	}
	return r[at], r[at] != r[at-1]
}

func nextChange(r []bool, behind int) int {
	at := behind + 1
	for at < len(r) {
		if _, ok := changes(r, at); ok {
			return at
		}
		at++
	}
	return len(r)
}

func nextChangeTo(r []bool, behind int, colour bool) int {
	at := behind + 1
	for at < len(r) {
		if to, ok := changes(r, at); ok && to == colour {
			return at
		}
		at++
	}
	return len(r)
}

func lineByPromise(r, above []bool) string {
	w := len(r)
	if w == 0 {
		return ""
	}
	codes := map[int]string{0: "1", 1: "011", 2: "000011", 3: "0000011", -1: "010", -2: "000010", -3: "0000010"}
	bits, a, colour := "", -1, false
	for a < w {
		a1 := nextChange(r, a)
		a2 := nextChange(r, a1)
		b1 := nextChangeTo(above, a, !colour)
		b2 := nextChange(above, b1)
		code, near := codes[a1-b1]
		if b2 < a1 {
			bits += "0001"
			a = b2
		} else if near {
			bits += code
			a = a1
			colour = !colour
		} else {
			bits += "001" + gammaByPromise(a1-max(a, 0)+1) + gammaByPromise(a2-a1+1)
			a = a2
		}
	}
	return bits
}

func contextByPromise(b api.Bits, x, y int) int {
	n := 0
	for _, p := range [][2]int{
		{x - 1, y - 2}, {x, y - 2}, {x + 1, y - 2},
		{x - 2, y - 1}, {x - 1, y - 1}, {x, y - 1}, {x + 1, y - 1}, {x + 2, y - 1},
		{x - 2, y}, {x - 1, y},
	} {
		n <<= 1
		if p[0] >= 0 && p[0] < b.W && p[1] >= 0 && b.P[p[1]*b.W+p[0]] {
			n |= 1
		}
	}
	return n
}

// A scale has the numbers of the adaptive bits; low is without a bound, and times tells how often it was multiplied.
type scale struct {
	low     *big.Int
	span    int
	times   int
	chances [1024]int
}

func newScale() *scale {
	s := &scale{low: new(big.Int), span: 1<<32 - 1}
	for i := range s.chances {
		s.chances[i] = 2048
	}
	return s
}

func (s *scale) add(context int, ink bool) {
	p := &s.chances[context]
	m := s.span / 4096 * *p
	if ink {
		s.low.Add(s.low, big.NewInt(int64(m)))
		s.span -= m
		*p -= *p / 32
	} else {
		s.span = m
		*p += (4096 - *p) / 32
	}
	for s.span < 1<<24 {
		s.low.Mul(s.low, big.NewInt(256))
		s.span *= 256
		s.times++
	}
}

func adaptiveByPromise(b api.Bits) string {
	s := newScale()
	for i, ink := range b.P {
		s.add(contextByPromise(b, i%b.W, i/b.W), ink)
	}
	return string(s.low.FillBytes(make([]byte, 4+s.times)))
}

// pageAt is the page whose numbers lead to the one of these bytes (others follow as 0), or as near as a page goes.
func pageAt(data string, w, h int) api.Bits {
	b := api.Bits{W: w, H: h, P: make([]bool, w*h)}
	s := newScale()
	for i := range b.P {
		context := contextByPromise(b, i%w, i/w)
		goal := new(big.Int).SetBytes([]byte((data + strings.Repeat("\x00", w*h))[:4+s.times]))
		border := new(big.Int).Add(s.low, big.NewInt(int64(s.span/4096*s.chances[context])))
		b.P[i] = goal.Cmp(border) >= 0
		s.add(context, b.P[i])
	}
	return b
}

func packedByPromise(bits string) string {
	for len(bits)%8 != 0 {
		bits += "0"
	}
	data := make([]byte, 0, len(bits)/8)
	for ; bits != ""; bits = bits[8:] {
		v := 0
		for _, c := range bits[:8] {
			v = 2*v + int(c-'0')
		}
		data = append(data, byte(v))
	}
	return string(data)
}

func dataByPromise(b api.Bits, kind int) string {
	if kind == 4 {
		return adaptiveByPromise(b)
	}
	var bits strings.Builder
	above := make([]bool, b.W)
	for y := range b.H {
		r := b.P[y*b.W : (y+1)*b.W]
		switch kind {
		case 1:
			for _, ink := range r {
				bits.WriteString(map[bool]string{false: "0", true: "1"}[ink])
			}
		case 2:
			for _, run := range runsByPromise(r) {
				bits.WriteString(gammaByPromise(run + 1))
			}
		case 3:
			bits.WriteString(lineByPromise(r, above))
		}
		above = r
	}
	return packedByPromise(bits.String())
}

func sumByPromise(text string) string {
	sum := fnv.New64a()
	sum.Write([]byte(text))
	return string(sum.Sum(nil))
}

func summed(text string) string { return text + sumByPromise(text) }

// framed is what has the form of Encode's, with the right sum.
func framed(kind, w, h int, data string) string {
	head := []byte{byte(kind)}
	head = binary.BigEndian.AppendUint16(head, uint16(w))
	head = binary.BigEndian.AppendUint16(head, uint16(h))
	head = binary.BigEndian.AppendUint32(head, uint32(len(data)))
	return summed(string(head) + data)
}

func encodeByPromise(b api.Bits, kind int) string {
	return framed(kind, b.W, b.H, dataByPromise(b, kind))
}

// A stored is what an archive has of a page.
type stored struct{ name, data string }

// archiveOf is an archive with the right sum, whatever the names and data are.
func archiveOf(l ...stored) string {
	head := binary.BigEndian.AppendUint16([]byte("FBA1"), uint16(len(l)))
	var data strings.Builder
	for _, s := range l {
		head = append(head, byte(len(s.name)))
		head = append(head, s.name...)
		head = binary.BigEndian.AppendUint32(head, uint32(len(s.data)))
		data.WriteString(s.data)
	}
	return string(head) + data.String() + sumByPromise(string(head))
}

func archiveByPromise(l []api.Named, kind int) string {
	var all []stored
	for _, n := range l {
		best := ""
		for k := 1; k <= 4; k++ {
			data := encodeByPromise(n.Bits, k)
			if k == kind || kind == 5 && (best == "" || len(data) < len(best)) {
				best = data
			}
		}
		all = append(all, stored{n.Name, best})
	}
	return archiveOf(all...)
}
