package bar

import (
	"slices"
	"strings"

	"flatbed/api"
	"flatbed/page"
)

const (
	maxUnit   = 8
	maxQuiet  = 200
	runsEAN   = 4*2*digitsAtSide + 2*len(edge) + len(middle)
	mostUnits = 4
	runsOf39  = 9
	runsStep  = runsOf39 + 1
)

// Draw draws modules as a page.
func Draw(modules string, unit, height, quiet int) (api.Bits, api.Errno) {
	if modules == "" {
		return api.Bits{}, api.ErrEmpty
	}
	if strings.Trim(modules, "01") != "" {
		return api.Bits{}, api.ErrForm
	}
	if page.Outside(unit, 1, maxUnit) || page.Outside(height, 1, api.MaxSide) || page.Outside(quiet, 0, maxQuiet) {
		return api.Bits{}, api.ErrRange
	}
	w := len(modules)*unit + 2*quiet
	if e := page.CheckSize(w, height); e != api.OK {
		return api.Bits{}, e
	}
	p := page.Fill(w, height, func(x, y int) bool {
		return x >= quiet && x < w-quiet && modules[(x-quiet)/unit] == barModule
	})
	return api.Bits{W: w, H: height, P: p}, api.OK
}

// Runs returns how long the runs of a row are, in turn without ink and with ink.
func Runs(b api.Bits, y int) ([]int, api.Errno) {
	if e := page.CheckBits(b); e != api.OK {
		return nil, e
	}
	if page.Outside(y, 0, b.H-1) {
		return nil, api.ErrPlace
	}
	return runsOf(b, y), api.OK
}

func runsOf(b api.Bits, y int) []int {
	runs := []int{0}
	last := false
	for _, ink := range b.P[y*b.W : (y+1)*b.W] {
		if ink != last {
			runs = append(runs, 0)
			last = ink
		}
		runs[len(runs)-1]++
	}
	return runs
}

// Units reads runs, which begin and end with ink, as the modules of a kind of code.
func Units(runs []int, kind int) (string, api.Errno) {
	if !isKind(kind) {
		return "", api.ErrKind
	}
	if !isCount(len(runs), kind) {
		return "", api.ErrForm
	}
	for _, r := range runs {
		if page.Outside(r, 1, api.MaxSide) {
			return "", api.ErrForm
		}
	}
	if kind == api.CodeEAN {
		return unitsEAN(runs), api.OK
	}
	return units39(runs), api.OK
}

// isCount reports whether a code of a kind can have so many runs.
func isCount(runs, kind int) bool {
	if kind == api.CodeEAN {
		return runs == runsEAN
	}
	return runs >= runsStep*leastWhole-1 && (runs+1)%runsStep == 0
}

// unitsEAN takes all runs together for 95 modules.
func unitsEAN(runs []int) string {
	sum := total(runs)
	var modules []byte
	for i, r := range runs {
		count := page.Rounded(r*modulesEAN, sum)
		modules = appendRun(modules, i, min(max(count, 1), mostUnits))
	}
	return string(modules)
}

func total(runs []int) int {
	sum := 0
	for _, r := range runs {
		sum += r
	}
	return sum
}

// units39 leaves out how long the spaces between letters are, as they are always narrow.
func units39(runs []int) string {
	codes := make([]string, (len(runs)+1)/runsStep)
	for i := range codes {
		codes[i] = modulesOf(piecesOf(runs[runsStep*i:][:runsOf39]))
	}
	return strings.Join(codes, between)
}

// piecesOf tells which runs of a letter are narrow and which wide.
func piecesOf(runs []int) string {
	ends := slices.Min(runs) + slices.Max(runs)
	pieces := make([]byte, len(runs))
	for i, r := range runs {
		pieces[i] = narrow
		if 2*r > ends {
			pieces[i] = wide
		}
	}
	return string(pieces)
}
