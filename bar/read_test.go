package bar_test

import (
	"slices"
	"strings"
	"testing"

	"flatbed/api"
	"flatbed/bar"
)

// readByPromise reads a row as P135 says, with all numbers of letters at each run of ink, up to some more than Read39 reads.
func readByPromise(b api.Bits, y int) []api.Code {
	runs, _ := bar.Runs(b, y)
	var l []api.Code
	for at := 1; at < len(runs); {
		kind, text, count := firstByPromise(runs[at:])
		if kind == 0 {
			at += 2
			continue
		}
		c := api.Code{Kind: kind, Text: text, Y: y, Count: 1}
		for _, r := range runs[:at] {
			c.X += r
		}
		for _, r := range runs[at : at+count] {
			c.W += r
		}
		l = append(l, c)
		at += count + 1
	}
	return l
}

func firstByPromise(runs []int) (kind int, text string, count int) {
	if len(runs) >= 59 {
		m, e := bar.Units(runs[:59], api.CodeEAN)
		if text, f := bar.ReadEAN(m); e == api.OK && f == api.OK {
			return api.CodeEAN, text, 59
		}
	}
	for m := 3; m <= 50 && 10*m-1 <= len(runs); m++ {
		modules, e := bar.Units(runs[:10*m-1], api.Code39)
		if text, f := bar.Read39(modules); e == api.OK && f == api.OK {
			return api.Code39, text, 10*m - 1
		}
	}
	return 0, "", 0
}

func code(kind int, text string, x, y, w int) api.Code { return seen(kind, text, x, y, w, 1) }

// TestReadDrawn reads just the code that is drawn, at each unit, also turned by two quarters.
func TestReadDrawn(t *testing.T) {
	for unit := 1; unit <= 8; unit++ {
		for i, quiet := range []int{0, 1, 2, 7, 50, 200} {
			digits := string(byte('0'+unit)) + digits13(t, unit+10*i)[1:12]
			n, _ := bar.CheckDigit(digits)
			digits += string(byte('0' + n))
			b := drawn(t, modulesEAN(t, digits), unit, 2, quiet)
			for y := range 2 {
				for _, p := range []api.Bits{b, turned(b)} {
					l, e := bar.ReadRow(p, y)
					wantList(t, digits, l, e, []api.Code{code(api.CodeEAN, digits, quiet, y, 95*unit)})
				}
			}
			for _, count := range []int{1, 2, 3, 4, 9, 25, 40} {
				text := letterText(unit+10*i, count)
				w := 16*(count+3) - 1
				if w*unit+2*quiet > api.MaxSide {
					continue
				}
				b = drawn(t, modules39(t, text), unit, 1, quiet)
				for _, p := range []api.Bits{b, turned(b)} {
					l, e := bar.ReadRow(p, 0)
					wantList(t, text, l, e, []api.Code{code(api.Code39, text, quiet, 0, w*unit)})
				}
			}
		}
	}
}

// TestReadEach has all digits, letters and units that there are at the ends of codes.
func TestReadEach(t *testing.T) {
	for seed := range 300 {
		digits := digits13(t, seed)
		b := drawn(t, modulesEAN(t, digits), 1+seed%8, 1, 1)
		l, e := bar.ReadRow(b, 0)
		wantList(t, digits, l, e, []api.Code{code(api.CodeEAN, digits, 1, 0, b.W-2)})
	}
	for i := range letters {
		for _, text := range []string{letters[i : i+1], letters[i:i+1] + "A", "*P"[1:] + letters[i:i+1], strings.Repeat(letters[i:i+1], 10)} {
			b := drawn(t, modules39(t, text), 1+i%4, 1, 1)
			for _, p := range []api.Bits{b, turned(b)} {
				l, e := bar.ReadRow(p, 0)
				wantList(t, text, l, e, []api.Code{code(api.Code39, text, 1, 0, b.W-2)})
			}
		}
	}
}

func TestReadBeside(t *testing.T) {
	digits, other := digits13(t, 1), digits13(t, 2)
	ean := func(unit, quiet int) api.Bits { return drawn(t, modulesEAN(t, digits), unit, 1, quiet) }
	second := drawn(t, modulesEAN(t, other), 1, 1, 3)
	short, long := drawn(t, modules39(t, "A"), 2, 1, 1), drawn(t, modules39(t, "FLAT-BED 1"), 1, 1, 4)
	l, e := bar.ReadRow(beside(t, ean(2, 5), second), 0)
	wantList(t, "two", l, e, []api.Code{code(api.CodeEAN, digits, 5, 0, 190), code(api.CodeEAN, other, 203, 0, 95)})
	l, e = bar.ReadRow(beside(t, short, long), 0)
	wantList(t, "two", l, e, []api.Code{code(api.Code39, "A", 1, 0, 126), code(api.Code39, "FLAT-BED 1", 132, 0, 207)})
	l, e = bar.ReadRow(beside(t, ean(1, 1), short, ean(1, 1), long, second), 0)
	wantList(t, "five", l, e, []api.Code{
		code(api.CodeEAN, digits, 1, 0, 95), code(api.Code39, "A", 98, 0, 126), code(api.CodeEAN, digits, 226, 0, 95),
		code(api.Code39, "FLAT-BED 1", 326, 0, 207), code(api.CodeEAN, other, 540, 0, 95),
	})
	// The same code twice in a row is there twice; turned by two quarters, all of them stand in the other order.
	l, e = bar.ReadRow(turned(beside(t, long, short, ean(3, 2), ean(3, 2))), 0)
	wantList(t, "turned", l, e, []api.Code{
		code(api.CodeEAN, digits, 2, 0, 285), code(api.CodeEAN, digits, 291, 0, 285), code(api.Code39, "A", 579, 0, 126),
		code(api.Code39, "FLAT-BED 1", 710, 0, 207),
	})
	// Ink between the codes is left out, but for ink that touches one.
	l, e = bar.ReadRow(beside(t, draw("#.##.#"), ean(1, 1), draw("#"), second, draw("##.")), 0)
	wantList(t, "ink", l, e, []api.Code{code(api.CodeEAN, digits, 7, 0, 95), code(api.CodeEAN, other, 107, 0, 95)})
	l, e = bar.ReadRow(beside(t, ean(1, 0), ean(1, 0), second), 0)
	wantList(t, "joined", l, e, []api.Code{code(api.CodeEAN, other, 193, 0, 95)})
}

func TestReadNothing(t *testing.T) {
	digits := digits13(t, 5)
	m := modulesEAN(t, digits)
	for _, b := range []api.Bits{
		draw("."), draw("#"), plain(4000, 1, true), plain(4000, 1, false), rowOf(slices.Repeat([]int{1}, 4000)...),
		rowOf(slices.Repeat([]int{2, 1, 1, 3}, 500)...), rowOf(0, 1, 3, 1, 1, 3, 1, 3, 1, 1),
		drawn(t, m[:94]+"0", 3, 1, 5), drawn(t, m[2:], 3, 1, 5), drawn(t, eanByPromise(digits[:12]+string('0'+(digits[12]-'0'+1)%10)), 3, 1, 5),
		drawn(t, whole39("*ABA*"), 2, 1, 5), drawn(t, whole39("*0*"), 2, 1, 5), drawn(t, whole39("**"), 2, 1, 5), drawn(t, whole39("*A**"), 2, 1, 5),
		drawn(t, whole39("*"+strings.Repeat("0", 42)+"*"), 1, 1, 5), drawn(t, whole39("AAA"), 2, 1, 5),
	} {
		l, e := bar.ReadRow(b, 0)
		wantList(t, "nothing", l, e, nil)
		l, e = bar.Find(b, 1)
		wantList(t, "nothing", l, e, nil)
	}
}

// TestReadBehind has what is no code ahead of a code, or around it, in letters of the same code.
func TestReadBehind(t *testing.T) {
	for _, c := range []struct {
		whole string
		want  []string
	}{
		{"*AA*", []string{"A"}},
		{"**AA*", []string{"A"}},
		{"*0*AA*", []string{"A"}},
		{"*AB*AA*", []string{"A"}},
		{"*AA*AA*", []string{"A"}},
		{"*AA**AA*", []string{"A", "A"}},
		{"*AA*B*CC*", []string{"A", "C"}},
		{"B*AA*B", []string{"A"}},
		{"PAAP", []string{"1"}},
		{"*PP*", []string{"P"}},
		{"*PAAPR*", []string{"PAAP"}},
		{"*PAAP", []string{"1"}},
		{"P*AAP", nil},
		{"*PAA*P", nil},
		{"P1*BB*1P", []string{"B"}},
		{"P*AA*P", []string{"A"}},
		{"*A" + strings.Repeat("0", 42) + "*AA*", []string{"A"}},
		{"*" + strings.Repeat("0", 41) + "*", []string{strings.Repeat("0", 40)}},
		{"*" + strings.Repeat("0", 42) + "*" + "AA*", []string{"A"}},
	} {
		for _, unit := range []int{1, 2} {
			m := whole39(c.whole)
			b := drawn(t, m, unit, 1, 1)
			l, e := bar.ReadRow(b, 0)
			if !slices.Equal(textsOf(l), c.want) || e != api.OK || !slices.Equal(l, readByPromise(b, 0)) {
				t.Error(c.whole, l, e)
			}
		}
	}
}

func textsOf(l []api.Code) []string {
	var texts []string
	for _, c := range l {
		texts = append(texts, c.Text)
	}
	return texts
}

// TestReadMixed has rows of letters and digits of which most are no codes.
func TestReadMixed(t *testing.T) {
	read := 0
	for seed := range 30 {
		var parts []api.Bits
		for i := 0; i < 12; i++ {
			n := number(seed, i)
			switch n % 6 {
			case 0:
				parts = append(parts, drawn(t, modulesEAN(t, digits13(t, n)), 1+n%3, 1, n%5))
			case 1:
				parts = append(parts, drawn(t, modules39(t, letterText(n, 1+n%9)), 1+n%2, 1, n%4))
			case 2:
				parts = append(parts, drawn(t, whole39(mixedWhole(seed+i)), 1+n%2, 1, n%3))
			case 3:
				parts = append(parts, drawn(t, eanByPromise(letterDigits(n)), 1, 1, n%2))
			case 4:
				parts = append(parts, rowOf(mixedRuns(n, 1+n%20, 4)...))
			case 5:
				parts = append(parts, turned(drawn(t, modules39(t, letterText(n, 1+n%5)), 1, 1, n%3)))
			}
		}
		b := beside(t, parts...)
		for _, p := range []api.Bits{b, turned(b)} {
			l, e := bar.ReadRow(p, 0)
			wantList(t, "mixed", l, e, readByPromise(p, 0))
			read += len(l)
		}
	}
	if read < 200 {
		t.Error(read)
	}
}

// letterDigits are 13 digits whose check digit is mostly wrong.
func letterDigits(seed int) string {
	text := ""
	for i := range 13 {
		text += string(byte('0' + number(seed, i)%10))
	}
	return text
}

// mixedWhole has many stars, also turned round, and letters that may be check letters by chance.
func mixedWhole(seed int) string {
	text := ""
	for i := range 3 + number(seed, 0)%9 {
		text += string("**PP001A"[number(seed, i+1)%8])
	}
	return text
}

// TestReadUneven has runs that are a little longer or shorter than they were drawn.
func TestReadUneven(t *testing.T) {
	read := 0
	for seed := range 300 {
		modules := modulesEAN(t, digits13(t, seed))
		if seed%2 == 0 {
			modules = modules39(t, letterText(seed, 1+seed%8))
		}
		runs := append([]int{3}, runsOf(modules, 5)...)
		for i := range runs {
			runs[i] += number(seed, i)%5 - 2
		}
		b := rowOf(runs...)
		l, e := bar.ReadRow(b, 0)
		wantList(t, "uneven", l, e, readByPromise(b, 0))
		read += len(l)
	}
	if read < 150 {
		t.Error(read)
	}
	// Spaces between letters can be as wide as all.
	letter := runsOf(whole39("*"), 1)
	b := rowOf(slices.Concat([]int{1}, letter, []int{90}, runsOf(whole39("A"), 3), []int{1}, runsOf(whole39("A"), 2), []int{500}, letter)...)
	l, e := bar.ReadRow(b, 0)
	wantList(t, "spaces", l, e, []api.Code{code(api.Code39, "A", 1, 0, b.W-1)})
}

// TestReadCut has what is left of codes that are cut at either end.
func TestReadCut(t *testing.T) {
	b := beside(t, drawn(t, modules39(t, "A"), 1, 1, 2), drawn(t, modulesEAN(t, digits13(t, 9)), 1, 1, 1))
	for w := 1; w <= b.W; w++ {
		for _, p := range []api.Bits{{W: w, H: 1, P: slices.Clone(b.P[:w])}, {W: w, H: 1, P: slices.Clone(b.P[b.W-w:])}} {
			l, e := bar.ReadRow(p, 0)
			var want []api.Code
			if cut := b.W - w; sameBits(p, api.Bits{W: w, H: 1, P: b.P[:w]}) {
				if w >= 65 {
					want = append(want, code(api.Code39, "A", 2, 0, 63))
				}
				if w >= 163 {
					want = append(want, code(api.CodeEAN, digits13(t, 9), 68, 0, 95))
				}
			} else {
				if cut <= 2 {
					want = append(want, code(api.Code39, "A", 2-cut, 0, 63))
				}
				if cut <= 68 {
					want = append(want, code(api.CodeEAN, digits13(t, 9), 68-cut, 0, 95))
				}
			}
			wantList(t, "cut", l, e, want)
		}
	}
}

// TestReadInverted has codes with ink for spaces: they would be read if they began at a run without ink.
func TestReadInverted(t *testing.T) {
	for _, m := range []string{modulesEAN(t, digits13(t, 4)), modules39(t, "AB")} {
		for _, quiet := range []int{0, 1, 5} {
			b := drawn(t, m, 2, 1, quiet)
			for i, ink := range b.P {
				b.P[i] = !ink
			}
			l, e := bar.ReadRow(b, 0)
			wantList(t, "inverted", l, e, nil)
			l, e = bar.ReadRow(beside(t, drawn(t, modules39(t, "C"), 1, 1, 0), draw("."), b), 0)
			wantList(t, "behind a code", l, e, []api.Code{code(api.Code39, "C", 0, 0, 63)})
		}
	}
}

// TestReadCrossed has codes that are read otherwise at a later run, if not at the first one.
func TestReadCrossed(t *testing.T) {
	m := modulesEAN(t, digits13(t, 3))
	b := beside(t, drawn(t, m[:90], 2, 1, 1), drawn(t, m, 2, 1, 1), drawn(t, m[:50], 2, 1, 1))
	l, e := bar.ReadRow(b, 0)
	wantList(t, "EAN", l, e, []api.Code{code(api.CodeEAN, digits13(t, 3), 183, 0, 190)})
	b = beside(t, drawn(t, m[:92], 2, 1, 0), drawn(t, whole39("*AA*"), 1, 1, 1), drawn(t, whole39("*BB"), 1, 1, 1))
	l, e = bar.ReadRow(b, 0)
	wantList(t, "Code 39", l, e, readByPromise(b, 0))
	if !slices.Equal(textsOf(l), []string{"A"}) {
		t.Error(l)
	}
}
