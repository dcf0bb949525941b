package glyph_test

import (
	"slices"
	"strings"
	"testing"

	"flatbed/api"
)

const (
	mostInt  = 1<<63 - 1
	leastInt = -1 << 63
)

func draw(rows ...string) api.Bits {
	b := api.Bits{W: len(rows[0]), H: len(rows)}
	for _, c := range strings.Join(rows, "") {
		b.P = append(b.P, c == '#')
	}
	return b
}

func plain(w, h int, ink bool) api.Bits {
	return api.Bits{W: w, H: h, P: slices.Repeat([]bool{ink}, w*h)}
}

// pattern has ink where has says so.
func pattern(w, h int, has func(x, y int) bool) api.Bits {
	b := plain(w, h, false)
	for i := range b.P {
		b.P[i] = has(i%w, i/w)
	}
	return b
}

// number is one from 0 to 255 that hangs on its arguments only, and looks alike nowhere.
func number(seed, i int) int {
	x := uint32(i)*2654435761 + uint32(seed)*40503
	return int((x ^ x>>15) * 2246822519 >> 24)
}

// mixedBits has ink in about dark of 256 pixels.
func mixedBits(seed, w, h, dark int) api.Bits {
	return pattern(w, h, func(x, y int) bool { return number(seed, y*w+x) < dark })
}

// at is without ink outside of the page.
func at(b api.Bits, x, y int) bool { return x >= 0 && x < b.W && y >= 0 && y < b.H && b.P[y*b.W+x] }

func part(b api.Bits, box api.Box) api.Bits {
	return pattern(box.W, box.H, func(x, y int) bool { return at(b, box.X+x, box.Y+y) })
}

func letter(text string, rows ...string) api.Letter {
	return api.Letter{Text: text, Bits: draw(rows...)}
}

// tiny is a font of 5 rows, in which `ll` is a letter of its own, but `il` is none.
func tiny() api.Font {
	return api.Font{Name: "tiny", Height: 5, Gap: 1, Space: 3, Letters: []api.Letter{
		letter("i", "#", ".", "#", "#", "#"),
		letter("l", "#", "#", "#", "#", "#"),
		letter("o", "...", "###", "#.#", "#.#", "###"),
		letter("ll", "#.#", "#.#", "#.#", "#.#", "###"),
	}}
}

// least is as small in all as a font can be.
func least() api.Font {
	return api.Font{Name: "a", Height: 1, Gap: 1, Space: 2, Letters: []api.Letter{letter("!", "#")}}
}

// greatest is as large in all as a font can be; its letters differ by two pixels each.
func greatest() api.Font {
	f := api.Font{Name: "z" + strings.Repeat("9", 39), Height: 64, Gap: 16, Space: 64}
	for i := range 200 {
		b := plain(64, 64, true)
		b.P[20*i+5] = false
		f.Letters = append(f.Letters, api.Letter{Text: string([]byte{byte(33 + i%94), byte(126 - i/94), '!', '~'}), Bits: b})
	}
	return f
}

// mixedFont has letters of 1 to 9 columns that are told apart: those with one byte spell the texts of the others, too.
func mixedFont(height, count, gap, space int) api.Font {
	texts := []string{"a", "b", "c", "d", "ab", "abc", "dcba", "aa", "bd", "ccc", "caba", "da", "ddd", "bb", "acbd", "cd"}
	f := api.Font{Name: "mixed-1", Height: height, Gap: gap, Space: space}
	for seed := 0; len(f.Letters) < count; seed++ {
		b := mixedBits(seed, 1+seed%9, height, 110)
		for x := range b.W {
			b.P[number(x, seed)%height*b.W+x] = true
		}
		if toldApart(f, b) {
			f.Letters = append(f.Letters, api.Letter{Text: texts[len(f.Letters)], Bits: b})
		}
	}
	return f
}

func toldApart(f api.Font, b api.Bits) bool {
	return !slices.ContainsFunc(f.Letters, func(l api.Letter) bool {
		return max(l.Bits.W-b.W, b.W-l.Bits.W) <= 2 && distanceByPlaces(l.Bits, b, 1) == 0
	})
}

func mixedFonts() []api.Font {
	return []api.Font{
		tiny(), least(), mixedFont(2, 4, 1, 2), mixedFont(3, 5, 1, 4), mixedFont(6, 10, 2, 3), mixedFont(9, 16, 3, 9),
		mixedFont(20, 16, 16, 64), mixedFont(64, 8, 5, 6),
	}
}

// mixedTexts are texts of one to twelve words that a font spells, if it has letters of one byte for all others.
func mixedTexts(f api.Font) []string {
	var l []string
	for seed := range 12 {
		var words []string
		for i := range seed + 1 {
			word := ""
			for j := range 1 + number(seed, i)%5 {
				word += f.Letters[number(seed+i, j)%len(f.Letters)].Text
			}
			words = append(words, word)
		}
		text := strings.Join(words, " ")
		l = append(l, strings.TrimSuffix(text[:min(len(text), 200)], " "))
	}
	return l
}

func distanceByPlaces(a, b api.Bits, reach int) int {
	least := mostInt
	for dx := -reach; dx <= reach; dx++ {
		for dy := -reach; dy <= reach; dy++ {
			n := 0
			for y := -reach; y < max(a.H, b.H)+reach; y++ {
				for x := -reach; x < max(a.W, b.W)+reach; x++ {
					if at(a, x, y) != at(b, x-dx, y-dy) {
						n++
					}
				}
			}
			least = min(least, n)
		}
	}
	return least
}

// goodSizes are the least size, and sizes at the limits.
func goodSizes() [][2]int {
	return [][2]int{{1, 1}, {4000, 1}, {1, 4000}, {4000, 262}, {262, 4000}, {1024, 1024}}
}

// wrongNumbers are outside of every range that does not reach to least and most, also if they are cut to 32 bits.
func wrongNumbers(least, most int) []int {
	return []int{least - 1, most + 1, -1 << 31, 1 << 31, 1 << 32, 1<<32 + most, -1 << 32, leastInt, leastInt + 1, mostInt, mostInt / 2}
}

// wrongLetterTexts are none from 1 to 4 bytes, or have a byte that is not from 33 to 126.
func wrongLetterTexts() []string {
	return []string{"", "abcde", " ", "a ", " a", "a b", "\x00", "a\x1f", "\x7f", "\n", "ab\n", "\xff", "\xc3\xa4", strings.Repeat("a", 261)}
}

func sameBits(a, b api.Bits) bool { return a.W == b.W && a.H == b.H && slices.Equal(a.P, b.P) }

func sameLetter(a, b api.Letter) bool { return a.Text == b.Text && sameBits(a.Bits, b.Bits) }

func sameFont(a, b api.Font) bool {
	return a.Name == b.Name && a.Height == b.Height && a.Gap == b.Gap && a.Space == b.Space &&
		slices.EqualFunc(a.Letters, b.Letters, sameLetter)
}

func wantBits(t *testing.T, what string, got api.Bits, e api.Errno, want api.Bits) {
	t.Helper()
	if e != api.OK || !sameBits(got, want) {
		t.Errorf("%s: error %d, got%s\nwant%s", what, e, picture(got), picture(want))
	}
}

func wantFont(t *testing.T, what string, got api.Font, e api.Errno, want api.Font) {
	t.Helper()
	if e != api.OK || !sameFont(got, want) {
		t.Errorf("%s: error %d, got %v\nwant %v", what, e, got, want)
	}
}

func wantList[T comparable](t *testing.T, what string, got []T, e api.Errno, want []T) {
	t.Helper()
	if e != api.OK || !slices.Equal(got, want) {
		t.Errorf("%s: error %d, got %v\nwant %v", what, e, got, want)
	}
}

func wantInt(t *testing.T, what string, got int, e api.Errno, want int) {
	t.Helper()
	if e != api.OK || got != want {
		t.Errorf("%s: got %d, error %d; want %d", what, got, e, want)
	}
}

func picture(b api.Bits) string {
	text := ""
	for i, ink := range b.P {
		if i%b.W == 0 {
			text += "\n"
		}
		text += map[bool]string{false: ".", true: "#"}[ink]
	}
	return text
}

// The following ones want an error, and the zero value of what else is returned.

func failBits(t *testing.T, what string, got api.Bits, e, want api.Errno) {
	t.Helper()
	if e != want || !sameBits(got, api.Bits{}) {
		t.Errorf("%s: got %d by %d, error %d; want error %d alone", what, got.W, got.H, e, want)
	}
}

func failFont(t *testing.T, what string, got api.Font, e, want api.Errno) {
	t.Helper()
	if e != want || !sameFont(got, api.Font{}) {
		t.Errorf("%s: got %s with %d letters, error %d; want error %d alone", what, got.Name, len(got.Letters), e, want)
	}
}

func failList[T any](t *testing.T, what string, got []T, e, want api.Errno) {
	t.Helper()
	if e != want || len(got) != 0 {
		t.Errorf("%s: got %d of a list, error %d; want error %d alone", what, len(got), e, want)
	}
}

func failInt(t *testing.T, what string, got int, e, want api.Errno) {
	t.Helper()
	if e != want || got != 0 {
		t.Errorf("%s: got %d, error %d; want error %d alone", what, got, e, want)
	}
}
