package part

import (
	"iter"

	"flatbed/api"
	"flatbed/page"
)

func checkGaps(gapx, gapy int) api.Errno {
	if page.Outside(gapx, 1, api.MaxSide) || page.Outside(gapy, 1, api.MaxSide) {
		return api.ErrRange
	}
	return api.OK
}

// cutBetween tells where something with these columns and rows is cut: at a stretch between its columns, or between its
// rows. The stretch is empty if it cannot be cut.
func cutBetween(columns, rows iter.Seq[span], gapx, gapy int) (at span, upright bool) {
	x, y := widestGap(columns, gapx), widestGap(rows, gapy)
	if x.size()*gapy > y.size()*gapx {
		return x, true
	}
	return y, false
}

// widestGap returns the first of the widest stretches between spans, or an empty one if none has least. The spans come in
// the order of where they begin, and can overlap.
func widestGap(l iter.Seq[span], least int) span {
	var best span
	first, end := true, 0
	for s := range l {
		gap := span{end, s.from}
		if !first && gap.size() >= least && gap.size() > best.size() {
			best = gap
		}
		if first || s.to > end {
			first, end = false, s.to
		}
	}
	return best
}

// partsOf divides whole, and its parts again, as long as divide can, and returns what is left, first parts first.
// It ends early when there are more than MaxBoxes. It keeps a list of what is still to be divided, as calls within
// calls would keep all that has been divided, too.
func partsOf[T any](whole T, divide func(T) (first, second T, ok bool)) []T {
	var parts []T
	for open := []T{whole}; len(open) > 0 && len(parts) <= api.MaxBoxes; {
		last := len(open) - 1
		part := open[last]
		open = open[:last]
		if first, second, ok := divide(part); ok {
			open = append(open, second, first)
		} else {
			parts = append(parts, part)
		}
	}
	return parts
}
