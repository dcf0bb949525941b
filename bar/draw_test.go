package bar_test

import (
	"slices"
	"strings"
	"testing"

	"flatbed/api"
	"flatbed/bar"
)

func TestDraw(t *testing.T) {
	for _, c := range []struct {
		modules             string
		unit, height, quiet int
		want                api.Bits
	}{
		{"1", 1, 1, 0, draw("#")},
		{"0", 1, 1, 0, draw(".")},
		{"0", 2, 3, 1, draw("....", "....", "....")},
		{"1011", 1, 2, 0, draw("#.##", "#.##")},
		{"1011", 1, 1, 2, draw("..#.##..")},
		{"101", 3, 2, 1, draw(".###...###.", ".###...###.")},
		{"0110", 2, 1, 0, draw("..####..")},
		{"11", 8, 1, 3, draw("...################...")},
	} {
		b, e := bar.Draw(c.modules, c.unit, c.height, c.quiet)
		wantBits(t, c.modules, b, e, c.want)
	}
	for unit := 1; unit <= 8; unit++ {
		for _, quiet := range []int{0, 1, 9, 200} {
			for _, modules := range []string{modulesEAN(t, "4006381333931"), "001110010100", strings.Repeat("1", 57)} {
				row := strings.Repeat(".", quiet)
				for _, c := range modules {
					row += strings.Repeat(map[rune]string{'0': ".", '1': "#"}[c], unit)
				}
				row += strings.Repeat(".", quiet)
				b, e := bar.Draw(modules, unit, 5, quiet)
				wantBits(t, modules, b, e, draw(row, row, row, row, row))
			}
		}
	}
}

func TestDrawBad(t *testing.T) {
	try := func(modules string, unit, height, quiet int, want api.Errno) {
		t.Helper()
		b, e := bar.Draw(modules, unit, height, quiet)
		failBits(t, modules[:min(len(modules), 99)], b, e, want)
	}
	long := strings.Repeat("1", 5000)
	try("", 1, 1, 1, api.ErrEmpty)
	try("", 0, -1, 201, api.ErrEmpty)
	for _, modules := range []string{"2", " ", "/", "a", "\x00", "\xff", "101 ", " 101", "1 1", "1\n", "11012", "201", "10a01", "\xb11", "1\xc2\xb9", long + "2"} {
		try(modules, 1, 1, 1, api.ErrForm)
		try(modules, 9, 4001, -1, api.ErrForm)
	}
	for _, modules := range []string{"1", "101", long, strings.Repeat("0", 1<<20)} {
		for _, n := range wrongNumbers(1, 8) {
			try(modules, n, 5, 5, api.ErrRange)
		}
		for _, n := range wrongNumbers(1, 4000) {
			try(modules, 1, n, 5, api.ErrRange)
		}
		for _, n := range wrongNumbers(0, 200) {
			try(modules, 1, 5, n, api.ErrRange)
		}
	}
	try(long, 1, 300, 0, api.ErrRange)
	try(long, 8, 1, 200, api.ErrRange)
	try(long[:4000], 2, 1, 0, api.ErrRange)
	try(long[:4000], 1, 263, 0, api.ErrLarge)
	try(long[:3600], 1, 263, 200, api.ErrLarge)
	try(long[:3601], 1, 1, 200, api.ErrRange)
	try(long[:500], 8, 263, 0, api.ErrLarge)
	try(long[:501], 8, 263, 0, api.ErrRange)
	try(long[:263], 1, 4000, 0, api.ErrLarge)
	try(strings.Repeat("0", 1<<20), 8, 4000, 200, api.ErrRange)
}

func TestDrawLarge(t *testing.T) {
	for _, c := range [][4]int{{4000, 1, 262, 0}, {500, 8, 262, 0}, {3600, 1, 1, 200}, {450, 8, 262, 200}, {1, 1, 4000, 0}, {262, 1, 4000, 0}, {62, 1, 4000, 100}, {1024, 1, 1024, 0}} {
		modules := strings.Repeat("110", c[0])[:c[0]]
		b := drawn(t, modules, c[1], c[2], c[3])
		if b.W != c[0]*c[1]+2*c[3] || b.H != c[2] || len(b.P) != b.W*b.H {
			t.Fatal(c, b.W, b.H)
		}
		for i, ink := range b.P {
			x := i%b.W - c[3]
			if ink != (x >= 0 && x < c[0]*c[1] && modules[x/c[1]] == '1') {
				t.Fatal(c, i)
			}
		}
	}
}

func TestRuns(t *testing.T) {
	for _, c := range []struct {
		row  string
		want []int
	}{
		{"##.#.", []int{0, 2, 1, 1, 1}},
		{".", []int{1}},
		{"#", []int{0, 1}},
		{".....", []int{5}},
		{"####", []int{0, 4}},
		{"...#", []int{3, 1}},
		{"#...", []int{0, 1, 3}},
		{".##..###....#", []int{1, 2, 2, 3, 4, 1}},
	} {
		l, e := bar.Runs(draw(c.row), 0)
		wantList(t, c.row, l, e, c.want)
		other := strings.Map(func(r rune) rune { return map[rune]rune{'.': '#', '#': '.'}[r] }, c.row)
		b := draw(other, c.row, other)
		l, e = bar.Runs(b, 1)
		wantList(t, c.row, l, e, c.want)
	}
	b := draw("#..", ".#.", "..#", "...")
	for y, want := range [][]int{{0, 1, 2}, {1, 1, 1}, {2, 1}, {3}} {
		l, e := bar.Runs(b, y)
		wantList(t, "Runs", l, e, want)
	}
	for seed := range 50 {
		row := plain(1+3*seed, 1, false)
		for i := range row.P {
			row.P[i] = number(seed, i) < 40+4*seed
		}
		l, e := bar.Runs(row, 0)
		if e != api.OK || !sameBits(rowOf(l...), row) || slices.Contains(l[1:], 0) {
			t.Error(seed, l, e)
		}
	}
}

func TestRunsPlace(t *testing.T) {
	for _, b := range []api.Bits{draw("#"), draw("#.", ".#", "##"), plain(1, 4000, true), plain(4000, 1, false)} {
		for _, y := range append(wrongNumbers(0, b.H-1), -b.H, 4000, 1<<20) {
			l, e := bar.Runs(b, y)
			failList(t, "Runs", l, e, api.ErrPlace)
			c, e := bar.ReadRow(b, y)
			failList(t, "ReadRow", c, e, api.ErrPlace)
		}
	}
}

// unitsByPromise is Units for runs without an error; the number of modules is found by trying.
func unitsByPromise(runs []int, kind int) string {
	text := ""
	add := func(i, count int) { text += strings.Repeat(string("10"[i%2]), count) }
	if kind == api.CodeEAN {
		sum := 0
		for _, r := range runs {
			sum += r
		}
		for i, r := range runs {
			k := 1
			for k < 4 && 2*r*95 >= (2*k+1)*sum {
				k++
			}
			add(i, k)
		}
		return text
	}
	for i, r := range runs {
		if i%10 == 9 {
			text += "0"
			continue
		}
		letter := slices.Clone(runs[i/10*10 : i/10*10+9])
		slices.Sort(letter)
		if letter[0] != letter[8] && 2*r > letter[0]+letter[8] {
			add(i, 3)
		} else {
			add(i, 1)
		}
	}
	return text
}

func mixedRuns(seed, count, most int) []int {
	runs := make([]int, count)
	for i := range runs {
		runs[i] = 1 + (number(seed, i)*16+number(seed+1, i)/16)%most
	}
	return runs
}

func TestUnits(t *testing.T) {
	for seed, most := range []int{1, 2, 3, 4, 5, 7, 9, 12, 20, 32, 100, 500, 4000} {
		for times := range 8 {
			runs := mixedRuns(seed+20*times, 59, most)
			m, e := bar.Units(runs, api.CodeEAN)
			wantText(t, "EAN", m, e, unitsByPromise(runs, api.CodeEAN))
			for _, letters := range []int{3, 4, 5, 6, 12, 43, 44, 100} {
				runs = mixedRuns(seed+20*times, 10*letters-1, most)
				m, e = bar.Units(runs, api.Code39)
				wantText(t, "Code 39", m, e, unitsByPromise(runs, api.Code39))
			}
		}
	}
	for unit := 1; unit <= 40; unit++ {
		modules := modulesEAN(t, digits13(t, unit))
		m, e := bar.Units(runsOf(modules, unit), api.CodeEAN)
		wantText(t, "EAN", m, e, modules)
		modules = modules39(t, letterText(unit, unit))
		m, e = bar.Units(runsOf(modules, unit), api.Code39)
		wantText(t, "Code 39", m, e, modules)
	}
}

// TestUnitsRounded has runs whose sum is 190: a unit is 2, and odd runs lie between two numbers of modules.
func TestUnitsRounded(t *testing.T) {
	runs := slices.Repeat([]int{2}, 59)
	copy(runs, []int{1, 3, 5, 6, 7, 8, 9, 10, 39})
	for i := 9; i < 11; i++ {
		runs[i] = 3
	}
	sum := 0
	for _, r := range runs {
		sum += r
	}
	if sum != 190 {
		t.Fatal(sum)
	}
	m, e := bar.Units(runs, api.CodeEAN)
	wantText(t, "rounded", m, e, "1"+"00"+"111"+"000"+"1111"+"0000"+"1111"+"0000"+"1111"+"00"+"11"+strings.Repeat("01", 24))
	// A unit is 3800: 1899 would be no module, 1900 is one, as is all that is less than 5700.
	runs = slices.Repeat([]int{1900}, 59)
	m, e = bar.Units(runs, api.CodeEAN)
	wantText(t, "even", m, e, strings.Repeat("1100", 29)+"11")
	runs = slices.Repeat([]int{1}, 59)
	runs[30] = 4000
	m, e = bar.Units(runs, api.CodeEAN)
	wantText(t, "one long", m, e, strings.Repeat("10", 15)+"1111"+strings.Repeat("01", 14))
}

func TestUnits39Widths(t *testing.T) {
	spaces := func(letter []int, between int) []int {
		return slices.Concat(letter, []int{between}, letter, []int{between}, letter)
	}
	thrice := func(modules string) string { return modules + "0" + modules + "0" + modules }
	for _, c := range []struct {
		letter []int
		want   string
	}{
		{[]int{1, 1, 1, 1, 1, 1, 1, 1, 1}, "101010101"},
		{[]int{4000, 4000, 4000, 4000, 4000, 4000, 4000, 4000, 4000}, "101010101"},
		// Twice 2 is not more than 1 + 3.
		{[]int{1, 2, 3, 2, 1, 2, 3, 2, 1}, "1011101011101"},
		{[]int{1, 2, 2, 2, 2, 2, 2, 2, 2}, "1000111000111000111000111"},
		{[]int{2, 2, 2, 2, 2, 2, 2, 2, 3}, "10101010111"},
		{[]int{5, 1, 1, 1, 1, 1, 1, 1, 3}, "11101010101"},
		{[]int{5, 1, 1, 1, 1, 1, 1, 1, 4}, "1110101010111"},
		{[]int{4000, 1, 2000, 2001, 1, 1, 1, 1, 1}, "1110100010101"},
	} {
		for _, between := range []int{1, 2, 3, 9, 4000} {
			m, e := bar.Units(spaces(c.letter, between), api.Code39)
			wantText(t, c.want, m, e, thrice(c.want))
		}
	}
	// Each letter is measured by itself.
	small, large := runsOf(whole39("*"), 1), runsOf(whole39("*"), 7)
	m, e := bar.Units(slices.Concat(small, []int{100}, large, []int{1}, small), api.Code39)
	wantText(t, "stars", m, e, whole39("***"))
}

func TestUnitsBad(t *testing.T) {
	good := slices.Repeat([]int{5}, 59)
	try := func(runs []int, kind int, want api.Errno) {
		t.Helper()
		m, e := bar.Units(runs, kind)
		failText(t, "Units", m, e, want)
	}
	for _, kind := range append(wrongNumbers(1, 2), 0, 3) {
		for _, runs := range [][]int{good, good[:29], nil, {0}, {-1, 5}, good[:58]} {
			try(runs, kind, api.ErrKind)
		}
	}
	for n := range 130 {
		runs := slices.Repeat([]int{1}, n)
		if n != 59 {
			try(runs, api.CodeEAN, api.ErrForm)
		}
		if n < 29 || n%10 != 9 {
			try(runs, api.Code39, api.ErrForm)
		} else if m, e := bar.Units(runs, api.Code39); e != api.OK || len(m) != n {
			t.Error(n, m, e)
		}
	}
	for _, wrong := range wrongNumbers(1, 4000) {
		for _, at := range []int{0, 1, 9, 28, 58} {
			runs := slices.Clone(good)
			runs[at] = wrong
			try(runs, api.CodeEAN, api.ErrForm)
			try(runs, api.Code39, api.ErrForm)
			if at < 29 {
				try(runs[:29], api.Code39, api.ErrForm)
			}
		}
	}
}
