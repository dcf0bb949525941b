package shrink

import (
	"strconv"
	"strings"

	"flatbed/api"
	"flatbed/bar"
	"flatbed/page"
)

const (
	maxGamma     = 1 << 20
	longestGamma = 2*20 + 1
)

// Runs returns how long the runs of a row are, in turn without ink and with ink. An empty row is no page, all others are.
func Runs(row []bool) ([]int, api.Errno) {
	if len(row) > api.MaxSide {
		return nil, api.ErrLarge
	}
	if len(row) == 0 {
		return nil, api.OK
	}
	return bar.Runs(api.Bits{W: len(row), H: 1, P: row}, 0)
}

// FromRuns makes a row of its runs.
func FromRuns(runs []int, w int) ([]bool, api.Errno) {
	if w > api.MaxSide {
		return nil, api.ErrLarge
	}
	if w < 0 {
		return nil, api.ErrRange
	}
	row := make([]bool, 0, w)
	for i, run := range runs {
		least := min(i, 1)
		if page.Outside(run, least, w-len(row)) {
			return nil, api.ErrForm
		}
		for range run {
			row = append(row, i%2 == 1)
		}
	}
	if len(row) < w {
		return nil, api.ErrForm
	}
	return row, api.OK
}

// Gamma writes a number as bits.
func Gamma(n int) (string, api.Errno) {
	if page.Outside(n, 1, maxGamma) {
		return "", api.ErrRange
	}
	return gammaOf(n), api.OK
}

func gammaOf(n int) string {
	digits := strconv.FormatInt(int64(n), 2)
	return strings.Repeat("0", len(digits)-1) + digits
}

// ReadGamma reads the number at the beginning of bits, and tells how many bits it has.
func ReadGamma(bits string) (int, int, api.Errno) {
	head := bits[:min(len(bits), longestGamma)]
	zeros := len(head) - len(strings.TrimLeft(head, "0"))
	long := 2*zeros + 1
	if long > len(head) {
		return 0, 0, api.ErrSyntax
	}
	n, err := strconv.ParseUint(head[zeros:long], 2, 64)
	if err != nil || n > maxGamma {
		return 0, 0, api.ErrSyntax
	}
	return int(n), long, api.OK
}

// writeRuns writes a row as its runs, each plus 1, as the first one can be 0 long.
func writeRuns(row, _ []bool) (string, api.Errno) {
	runs, e := Runs(row)
	if e != api.OK {
		return "", e
	}
	var bits strings.Builder
	for _, run := range runs {
		bits.WriteString(gammaOf(run + 1))
	}
	return bits.String(), api.OK
}

// readRuns reads what writeRuns writes, for a row as long as the one above it. It ends at an empty run, as otherwise it
// would gather all of those that bits could have.
func readRuns(bits string, above []bool) ([]bool, int, api.Errno) {
	var runs []int
	at, sum := 0, 0
	for sum < len(above) {
		n, long, e := ReadGamma(bits[at:])
		if e != api.OK {
			return nil, 0, e
		}
		run := n - 1
		if run == 0 && len(runs) > 0 {
			return nil, 0, api.ErrSyntax
		}
		runs = append(runs, run)
		at, sum = at+long, sum+run
	}
	row, e := FromRuns(runs, len(above))
	if e != api.OK {
		return nil, 0, api.ErrSyntax
	}
	return row, at, api.OK
}
