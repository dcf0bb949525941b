package shrink_test

import (
	"slices"
	"strings"
	"testing"

	"flatbed/api"
	"flatbed/shrink"
)

// wantLine wants the bits of a row, and the row of the bits, whatever stands behind them.
func wantLine(t *testing.T, r, above []bool, want string) {
	t.Helper()
	what := picture(r) + " below " + picture(above)
	bits, e := shrink.Line(r, above)
	wantText(t, what, bits, e, want)
	for _, behind := range []string{"", "0", "1", "0000000", "x\xff"} {
		got, n, e := shrink.ReadLine(want+behind, above)
		wantList(t, what, got, e, r)
		wantInt(t, what, n, e, len(want))
	}
}

func failLine(t *testing.T, bits string, above []bool, want api.Errno) {
	t.Helper()
	r, n, e := shrink.ReadLine(bits, above)
	failList(t, bits, r, e, want)
	failInt(t, bits, n, e, want)
}

func TestLine(t *testing.T) {
	for _, c := range []struct{ row, above, want string }{
		{"", "", ""},
		{".", ".", "1"},
		{"#", ".", "010" + "1"},
		{".", "#", "011"},
		{"#", "#", "1" + "1"},
		{"........", "........", "1"},
		{"..##....", "..##....", "111"},
		{"........", "..##....", "0001" + "1"},
		{"........", "..##.##.", "0001" + "0001" + "1"},
		// The differences from -3 to 3, at the place at which ink begins.
		{"...##...", "...##...", "1" + "1" + "1"},
		{"....#...", "...##...", "011" + "1" + "1"},
		{".....#..", "...####.", "000011" + "010" + "1"},
		{"......##", "...#####", "0000011" + "1"},
		{"..##....", "...##...", "010" + "010" + "1"},
		{".#......", "...##...", "000010" + "0000010" + "0001" + "1"},
		{"#.......", "...##...", "0000010" + "001" + "010" + "0001000"},
		// Both changes are told: from the beginning on, which is no change by itself, and up to the end.
		{"##......", "........", "001" + "1" + "011" + "1"},
		{"########", "........", "001" + "1" + "0001001"},
		{"########", "....####", "001" + "1" + "0001001"},
		{"........", "..######", "001" + "0001001" + "1"},
		{"..........", "....######", "001" + "0001011" + "1"},
		{".........#", "#.........", "0001" + "010" + "1"},
		// Both changes are told behind a place.
		{".#.....#", "......##", "001" + "010" + "010" + "011" + "1"},
	} {
		wantLine(t, row(c.row), row(c.above), c.want)
	}
}

// TestLineAll has all short rows below all others.
func TestLineAll(t *testing.T) {
	for w := range 9 {
		for n := range 1 << (2 * w) {
			r, above := numberRow(n, w), numberRow(n>>w, w)
			wantLine(t, r, above, lineByPromise(r, above))
			if t.Failed() {
				return
			}
		}
	}
}

func TestLineLong(t *testing.T) {
	var rows [][]bool
	for seed, part := range []int{0, 1, 4, 20, 80, 128, 200, 250, 256} {
		rows = append(rows, mixedRow(seed, 4000, part))
	}
	for _, text := range []string{"#.", ".#", "##..", "..##", "##########..........", "...........................#"} {
		rows = append(rows, slices.Repeat(row(text), 4000)[:4000])
	}
	rows = append(rows, append(make([]bool, 3999), true), append([]bool{true}, make([]bool, 3999)...), append(make([]bool, 2000), slices.Repeat([]bool{true}, 2000)...))
	for _, r := range rows {
		for _, above := range rows {
			wantLine(t, r, above, lineByPromise(r, above))
		}
	}
	for w := 10; w < 300; w += 7 {
		for seed, part := range []int{10, 60, 128, 230} {
			above := mixedRow(seed, w, part)
			r := slices.Clone(above)
			for i := range r {
				r[i] = r[i] != (number(w, i) < 20)
			}
			wantLine(t, r, above, lineByPromise(r, above))
		}
	}
}

func TestLineBad(t *testing.T) {
	try := func(w, above int, want api.Errno) {
		t.Helper()
		bits, e := shrink.Line(make([]bool, w), make([]bool, above))
		failText(t, "Line", bits, e, want)
	}
	for _, w := range []int{4001, 4002, 1 << 20} {
		try(w, w, api.ErrLarge)
		try(w, w+1, api.ErrLarge)
		for _, other := range []int{0, 1, 4000} {
			try(w, other, api.ErrLarge)
			try(other, w, api.ErrLarge)
		}
		for _, bits := range []string{"", "1", "x", "0001"} {
			failLine(t, bits, make([]bool, w), api.ErrLarge)
		}
	}
	for _, w := range []int{1, 2, 3, 100, 4000} {
		try(w, w-1, api.ErrForm)
		try(w-1, w, api.ErrForm)
		try(w, 0, api.ErrForm)
		try(0, w, api.ErrForm)
	}
}

// TestReadLineAll has all short texts of bits below all short rows: a row is read if its bits stand at the beginning.
func TestReadLineAll(t *testing.T) {
	const long = 13
	for w := range 6 {
		for n := range 1 << w {
			above := numberRow(n, w)
			codes := map[string][]bool{}
			for m := range 1 << w {
				codes[lineByPromise(numberRow(m, w), above)] = numberRow(m, w)
			}
			for v := range 1 << long {
				bits := ""
				for i := range long {
					bits += string(byte('0' + v>>i&1))
				}
				tryBits(t, bits[:1+v%long], above, codes)
				tryBits(t, bits, above, codes)
			}
			if t.Failed() {
				return
			}
		}
	}
}

func tryBits(t *testing.T, bits string, above []bool, codes map[string][]bool) {
	t.Helper()
	for n := range len(bits) + 1 {
		if want, ok := codes[bits[:n]]; ok {
			r, got, e := shrink.ReadLine(bits, above)
			wantList(t, bits, r, e, want)
			wantInt(t, bits, got, e, n)
			return
		}
	}
	failLine(t, bits, above, api.ErrSyntax)
}

func TestReadLineBad(t *testing.T) {
	for _, c := range []struct{ bits, above string }{
		{"", "........"},
		{"0000000", "........"}, {"00000001", "........"}, {"0000001", "........"},
		// a1 is in front of the row, or beyond its end.
		{"010" + "1", "#......."}, {"0000010" + "1", "..#....."}, {"011", "........"}, {"0000011", "......##"},
		{"001" + "0001010" + "1", "........"}, {"001" + gammaByPromise(1<<20) + "1", "........"},
		// a1 is not behind a.
		{"1" + "001" + "1" + "010" + "1", "..##...."}, {"1" + "0000010" + "1", "..##...."}, {"1" + "000010" + "1", "..##...."},
		// a2 is not behind a1, or beyond the end.
		{"001" + "011" + "1", "........"}, {"001" + "011" + "00101", "....."}, {"001" + "1" + "0001010", "........"}, {"001" + "1" + gammaByPromise(1<<20), "........"},
		{"001" + "0001001" + "010", "........"},
		// Line would write other bits.
		{"001" + "0001001" + "1", "........"}, {"0001", "........"}, {"0001", "..######"}, {"001" + "010" + "010" + "1", ".#......"}, {"001" + "0001000" + "011", "#.......#"},
		// Numbers that are none, or too large.
		{"001" + "x", "........"}, {"001" + "1" + "0x1", "........"}, {"001" + strings.Repeat("0", 21) + "1" + strings.Repeat("0", 21) + "1", "........"},
		{"001" + strings.Repeat("0", 1<<20), "........"}, {strings.Repeat("0", 1<<20), "........"},
	} {
		failLine(t, c.bits, row(c.above), api.ErrSyntax)
	}
	for w := 1; w < 40; w += 3 {
		above := mixedRow(w, w, 90)
		bits := lineByPromise(mixedRow(w+1, w, 120), above)
		for i := range len(bits) {
			failLine(t, bits[:i], above, api.ErrSyntax)
			for _, c := range []string{"2", "/", "x", "\x00", "\x01", "\xb1", " "} {
				failLine(t, bits[:i]+c+bits[i+1:], above, api.ErrSyntax)
			}
		}
	}
}

// TestReadLineChanged changes and takes away single bits: what is read then has just these bits by Line.
func TestReadLineChanged(t *testing.T) {
	try := func(bits string, above []bool) {
		t.Helper()
		r, n, e := shrink.ReadLine(bits, above)
		if e != api.OK {
			failLine(t, bits, above, api.ErrSyntax)
		} else if len(r) != len(above) || n > len(bits) || lineByPromise(r, above) != bits[:n] {
			t.Error(bits, picture(above), n)
		}
	}
	for w := 5; w < 400; w += 13 {
		for seed, part := range []int{3, 30, 128, 220} {
			above := mixedRow(seed, w, part)
			bits := lineByPromise(mixedRow(seed+w, w, part), above)
			for i := range len(bits) {
				other := string('0' + '1' - bits[i])
				try(bits[:i]+other+bits[i+1:]+"111111", above)
				try(bits[:i]+bits[i+1:]+"0000", above)
				try(bits[i:]+bits, above)
			}
		}
	}
}
