package shrink

import (
	"strings"

	"flatbed/api"
	"flatbed/page"
)

const (
	maxData   = 2 * api.MaxText
	kindBytes = 1
	sizeBytes = 2
	longBytes = 4
	headBytes = kindBytes + 2*sizeBytes + longBytes
	sumBytes  = 8
)

// A way writes the pixels of a page as data, and reads them. It can read other data than it writes as a page, too.
type way struct {
	write func(b api.Bits) string
	read  func(data string, w, h int) ([]bool, api.Errno)
}

func waysByKind() map[int]way {
	return map[int]way{
		api.ShrinkPlain:   byRows(writePlain, readPlain),
		api.ShrinkRuns:    byRows(writeRuns, readRuns),
		api.ShrinkLines:   byRows(Line, ReadLine),
		api.ShrinkContext: {writeContext, readContext},
	}
}

type (
	rowWriter func(row, above []bool) (string, api.Errno)
	rowReader func(bits string, above []bool) ([]bool, int, api.Errno)
)

// byRows writes the bits of all rows one behind the other. The rows of a page have none of the errors of write.
func byRows(write rowWriter, read rowReader) way {
	return way{
		write: func(b api.Bits) string {
			var bits strings.Builder
			above := make([]bool, b.W)
			for y := range b.H {
				row := b.P[y*b.W : (y+1)*b.W]
				line, _ := write(row, above)
				bits.WriteString(line)
				above = row
			}
			return packed(bits.String())
		},
		read: func(data string, w, h int) ([]bool, api.Errno) {
			bits := unpacked(data)
			above := make([]bool, w)
			p := make([]bool, 0, w*h)
			for range h {
				row, n, e := read(bits, above)
				if e != api.OK {
					return nil, e
				}
				p = append(p, row...)
				bits, above = bits[n:], row
			}
			return p, api.OK
		},
	}
}

func writePlain(row, _ []bool) (string, api.Errno) {
	bits := page.Fill(len(row), 1, func(x, _ int) byte {
		if row[x] {
			return inkBit
		}
		return noInkBit
	})
	return string(bits), api.OK
}

func readPlain(bits string, above []bool) ([]bool, int, api.Errno) {
	w := len(above)
	if len(bits) < w {
		return nil, 0, api.ErrSyntax
	}
	return page.Fill(w, 1, func(x, _ int) bool { return bits[x] == inkBit }), w, api.OK
}

// Encode writes a page as bytes.
func Encode(b api.Bits, kind int) (string, api.Errno) {
	if e := page.CheckBits(b); e != api.OK {
		return "", e
	}
	by, ok := waysByKind()[kind]
	if !ok {
		return "", api.ErrKind
	}
	data := by.write(b)
	text := bytesOf(uint64(kind), kindBytes) + bytesOf(uint64(b.W), sizeBytes) + bytesOf(uint64(b.H), sizeBytes)
	text += bytesOf(uint64(len(data)), longBytes) + data
	return text + SumOf(text), api.OK
}

// Decode reads what Encode writes. That the data are just those of the page is found out by writing it again.
func Decode(data string) (api.Bits, api.Errno) {
	if len(data) > maxData {
		return api.Bits{}, api.ErrLarge
	}
	long := len(data) - headBytes - sumBytes
	if long < 0 || numberOf(data[headBytes-longBytes:headBytes]) != long {
		return api.Bits{}, api.ErrSyntax
	}
	text, sum := data[:headBytes+long], data[headBytes+long:]
	if SumOf(text) != sum {
		return api.Bits{}, api.ErrSum
	}
	by, ok := waysByKind()[numberOf(text[:kindBytes])]
	if !ok {
		return api.Bits{}, api.ErrKind
	}
	w, h := numberOf(text[kindBytes:][:sizeBytes]), numberOf(text[kindBytes+sizeBytes:][:sizeBytes])
	if e := page.CheckSize(w, h); e != api.OK {
		return api.Bits{}, e
	}
	p, e := by.read(text[headBytes:], w, h)
	b := api.Bits{W: w, H: h, P: p}
	if e != api.OK || by.write(b) != text[headBytes:] {
		return api.Bits{}, api.ErrSyntax
	}
	return b, api.OK
}

// Best writes a page as the kind that makes the fewest bytes, and returns this kind, too.
func Best(b api.Bits) (string, int, api.Errno) {
	best, least := "", 0
	for kind := api.ShrinkPlain; kind <= api.ShrinkContext; kind++ {
		data, e := Encode(b, kind)
		if e != api.OK {
			return "", 0, e
		}
		if least == 0 || len(data) < len(best) {
			best, least = data, kind
		}
	}
	return best, least, api.OK
}

// SumOf returns a number of a text that is another one if a byte is changed.
func SumOf(text string) string {
	n := uint64(14695981039346656037)
	for i := range len(text) {
		n = (n ^ uint64(text[i])) * 1099511628211
	}
	return bytesOf(n, sumBytes)
}
