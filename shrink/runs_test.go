package shrink_test

import (
	"slices"
	"strconv"
	"strings"
	"testing"

	"flatbed/api"
	"flatbed/shrink"
)

// wantRuns wants the runs of a row, and the row of the runs.
func wantRuns(t *testing.T, r []bool, want []int) {
	t.Helper()
	l, e := shrink.Runs(r)
	wantList(t, picture(r), l, e, want)
	back, e := shrink.FromRuns(want, len(r))
	wantList(t, picture(r), back, e, r)
}

func TestRuns(t *testing.T) {
	for text, want := range map[string][]int{
		"":              nil,
		".":             {1},
		"#":             {0, 1},
		".....":         {5},
		"####":          {0, 4},
		"##..#":         {0, 2, 2, 1},
		"...#":          {3, 1},
		"#...":          {0, 1, 3},
		".##..###....#": {1, 2, 2, 3, 4, 1},
	} {
		wantRuns(t, row(text), want)
	}
	for w := range 9 {
		for n := range 1 << w {
			wantRuns(t, numberRow(n, w), runsByPromise(numberRow(n, w)))
		}
	}
	wantRuns(t, make([]bool, 4000), []int{4000})
	wantRuns(t, slices.Repeat([]bool{true}, 4000), []int{0, 4000})
	wantRuns(t, slices.Repeat(row("#."), 2000), append([]int{0}, slices.Repeat([]int{1}, 4000)...))
	for _, part := range []int{3, 128, 250} {
		wantRuns(t, mixedRow(part, 4000, part), runsByPromise(mixedRow(part, 4000, part)))
	}
}

// TestRunsEmpty has an empty row that is not nil, and one of a first run that is 0 long alone.
func TestRunsEmpty(t *testing.T) {
	l, e := shrink.Runs([]bool{})
	wantList(t, "empty", l, e, nil)
	for _, runs := range [][]int{nil, {}, {0}} {
		r, e := shrink.FromRuns(runs, 0)
		wantList(t, "empty", r, e, nil)
	}
}

func TestRunsBad(t *testing.T) {
	for _, w := range []int{4001, 4002, 8000, 1 << 20} {
		l, e := shrink.Runs(make([]bool, w))
		failList(t, "Runs", l, e, api.ErrLarge)
	}
	for _, runs := range [][]int{nil, {}, {5}, {-1}, {4001}, {1, 0}, {mostInt, mostInt}} {
		for _, w := range []int{4001, 4002, 1 << 20, 1 << 32, 1<<32 + 5, mostInt} {
			r, e := shrink.FromRuns(runs, w)
			failList(t, "FromRuns", r, e, api.ErrLarge)
		}
		for _, w := range []int{-1, -5, -1 << 31, -1<<32 + 5, leastInt} {
			r, e := shrink.FromRuns(runs, w)
			failList(t, "FromRuns", r, e, api.ErrRange)
		}
	}
}

func TestFromRunsForm(t *testing.T) {
	for _, c := range []struct {
		runs []int
		w    int
	}{
		{nil, 1}, {nil, 4000}, {[]int{1}, 0}, {[]int{4}, 5}, {[]int{6}, 5}, {[]int{0}, 5},
		{[]int{0, 0}, 0}, {[]int{0, 0, 5}, 5}, {[]int{5, 0}, 5}, {[]int{1, 0, 4}, 5}, {[]int{0, 1, 0, 4}, 5}, {[]int{0, 0, 0}, 0},
		{[]int{-1}, 5}, {[]int{-1, 6}, 5}, {[]int{6, -1}, 5}, {[]int{3, -1, 3}, 5}, {[]int{-5, 10}, 5}, {[]int{leastInt}, 0},
		{[]int{2, 2}, 5}, {[]int{2, 4}, 5}, {[]int{0, 5, 1}, 5}, {[]int{5, 1}, 5}, {[]int{4000, 1}, 4000}, {[]int{3999}, 4000},
		{[]int{mostInt, mostInt, 7}, 5}, {[]int{mostInt}, 4000}, {[]int{1, mostInt, leastInt, 5}, 5}, {[]int{1 << 32, 5}, 5}, {[]int{1<<32 + 5}, 5},
		{[]int{2, 1 << 62, 1 << 62, 1 << 62, 1 << 62, 3}, 5},
		{slices.Repeat([]int{1}, 4001), 4000}, {slices.Repeat([]int{1}, 3999), 4000}, {make([]int, 1<<20), 0},
	} {
		r, e := shrink.FromRuns(c.runs, c.w)
		failList(t, strconv.Itoa(c.w), r, e, api.ErrForm)
	}
}

func TestGamma(t *testing.T) {
	numbers := map[int]string{
		1: "1", 2: "010", 3: "011", 4: "00100", 5: "00101", 7: "00111", 8: "0001000",
		4001:      strings.Repeat("0", 11) + "111110100001",
		1<<20 - 1: strings.Repeat("0", 19) + strings.Repeat("1", 20),
		1 << 20:   strings.Repeat("0", 20) + "1" + strings.Repeat("0", 20),
	}
	for n := 1; n <= 5000; n++ {
		if numbers[n] == "" {
			numbers[n] = gammaByPromise(n)
		}
	}
	for k := 13; k < 20; k++ {
		for n := 1<<k - 1; n <= 1<<k+1; n++ {
			numbers[n] = gammaByPromise(n)
		}
	}
	for n, want := range numbers {
		bits, e := shrink.Gamma(n)
		wantText(t, strconv.Itoa(n), bits, e, want)
		for _, behind := range []string{"", "0", "1", "00100", "x", "\x00", "\xff1"} {
			got, long, e := shrink.ReadGamma(want + behind)
			wantInt(t, want, got, e, n)
			wantInt(t, want, long, e, len(want))
		}
	}
	for _, n := range wrongNumbers(1, 1<<20) {
		bits, e := shrink.Gamma(n)
		failText(t, strconv.Itoa(n), bits, e, api.ErrRange)
	}
}

func failGamma(t *testing.T, bits string) {
	t.Helper()
	n, long, e := shrink.ReadGamma(bits)
	failInt(t, bits, n, e, api.ErrSyntax)
	failInt(t, bits, long, e, api.ErrSyntax)
}

func TestReadGammaBad(t *testing.T) {
	for _, bits := range []string{"", "0", "00", "01", "001", "0001", "00010", "000100", "x", "2", " 1", "x1", "0x1", "01x", "0+1", "0-1", "+1", "001+1", "0010_", "001 1", "\xb1", "/", "00/11"} {
		failGamma(t, bits)
	}
	// Greater than 2^20.
	for _, digits := range []string{"1" + strings.Repeat("0", 19) + "1", strings.Repeat("1", 21), "1" + strings.Repeat("0", 21), strings.Repeat("1", 32), "1" + strings.Repeat("0", 63), "1" + strings.Repeat("0", 64), strings.Repeat("1", 200)} {
		failGamma(t, strings.Repeat("0", len(digits)-1)+digits)
		failGamma(t, strings.Repeat("0", len(digits)-1)+digits+"1")
	}
	failGamma(t, strings.Repeat("0", 1<<20))
	failGamma(t, strings.Repeat("0", 1<<20)+strings.Repeat("1", 1<<20+1))
	for _, n := range []int{1, 2, 5, 77, 4001, 1 << 20} {
		bits := gammaByPromise(n)
		for i := range len(bits) {
			failGamma(t, bits[:i])
			for _, c := range []string{"2", "/", "x", "\x00", "\x01", "\xb0", "+", "_", " "} {
				failGamma(t, bits[:i]+c+bits[i+1:])
			}
		}
	}
}

// TestReadGammaAll has all short texts of bits: those are read that begin with the bits of a number.
func TestReadGammaAll(t *testing.T) {
	for long := range 12 {
		for v := range 1 << long {
			bits := ""
			for i := range long {
				bits += string(byte('0' + v>>i&1))
			}
			want := 0
			for n := 1; n < 64; n++ {
				if strings.HasPrefix(bits, gammaByPromise(n)) {
					want = n
				}
			}
			if want == 0 {
				failGamma(t, bits)
				continue
			}
			n, _, e := shrink.ReadGamma(bits)
			wantInt(t, bits, n, e, want)
		}
	}
}
