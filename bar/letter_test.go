package bar_test

import (
	"slices"
	"strings"
	"testing"

	"flatbed/api"
	"flatbed/bar"
)

// table39 is that of P132.
const table39 = `0 nnnwwnwnn | 1 wnnwnnnnw | 2 nnwwnnnnw | 3 wnwwnnnnn
4 nnnwwnnnw | 5 wnnwwnnnn | 6 nnwwwnnnn | 7 nnnwnnwnw
8 wnnwnnwnn | 9 nnwwnnwnn | A wnnnnwnnw | B nnwnnwnnw
C wnwnnwnnn | D nnnnwwnnw | E wnnnwwnnn | F nnwnwwnnn
G nnnnnwwnw | H wnnnnwwnn | I nnwnnwwnn | J nnnnwwwnn
K wnnnnnnww | L nnwnnnnww | M wnwnnnnwn | N nnnnwnnww
O wnnnwnnwn | P nnwnwnnwn | Q nnnnnnwww | R wnnnnnwwn
S nnwnnnwwn | T nnnnwnwwn | U wwnnnnnnw | V nwwnnnnnw
W wwwnnnnnn | X nwnnwnnnw | Y wwnnwnnnn | Z nwwnwnnnn
- nwnnnnwnw | . wwnnnnwnn | space nwwnnnwnn | $ nwnwnwnnn
/ nwnwnnnwn | + nwnnnwnwn | % nnnwnwnwn | * nwnnwnwnn`

// codes39 returns the modules of all letters, and of the star.
func codes39() map[byte]string {
	codes := map[byte]string{}
	for _, entry := range strings.FieldsFunc(table39, func(c rune) bool { return c == '|' || c == '\n' }) {
		parts := strings.Fields(entry)
		modules := ""
		for i, width := range parts[1] {
			modules += strings.Repeat(string("10"[i%2]), map[rune]int{'n': 1, 'w': 3}[width])
		}
		codes[strings.Replace(parts[0], "space", " ", 1)[0]] = modules
	}
	return codes
}

// whole39 makes modules of letters, which have the stars and the check letter already.
func whole39(whole string) string {
	codes := codes39()
	var l []string
	for i := range len(whole) {
		l = append(l, codes[whole[i]])
	}
	return strings.Join(l, "0")
}

func checkByPromise(text string) string {
	sum := 0
	for i := range len(text) {
		sum += strings.Index(letters, text[i:i+1])
	}
	return letters[sum%43 : sum%43+1]
}

// texts39 has texts of all lengths, and each letter.
func texts39() []string {
	l := []string{"0", "00", "CODE39", "FLAT-BED 1", " ", "   ", "%%%%", letters[:40], letters[3:], strings.Repeat("%", 40), strings.Repeat("0", 40)}
	for i := range letters {
		l = append(l, letters[i:i+1], letters[i:i+1]+letters[42-i:43-i])
	}
	for n := 1; n <= 40; n++ {
		l = append(l, letterText(n, n), letterText(n+100, n))
	}
	return l
}

// badTexts are no texts of Code 39, with the error for each.
func badTexts() map[string]api.Errno {
	l := map[string]api.Errno{"": api.ErrEmpty}
	for n := range 256 {
		c := string([]byte{byte(n)})
		if !strings.Contains(letters, c) {
			l[c], l["A"+c], l[c+"A"], l[strings.Repeat("0", 20)+c+strings.Repeat("0", 19)] = api.ErrForm, api.ErrForm, api.ErrForm, api.ErrForm
		}
		l[strings.Repeat("A", 40)+c], l[c+strings.Repeat("A", 40)], l[strings.Repeat(c, 41)] = api.ErrLarge, api.ErrLarge, api.ErrLarge
		l[strings.Repeat(c, 256+40)] = api.ErrLarge
	}
	l[strings.Repeat("A", 1<<20)] = api.ErrLarge
	l["\xc3\x84"] = api.ErrForm
	return l
}

func TestCheckLetter(t *testing.T) {
	for text, want := range map[string]string{
		"CODE39": "W", "0": "0", "1": "1", "A": "A", "%": "%", "%1": "0", "%%": "+", "Z8": "0", " ": " ", strings.Repeat("%", 40): "3",
	} {
		c, e := bar.CheckLetter(text)
		wantText(t, text, c, e, want)
	}
	for _, text := range texts39() {
		c, e := bar.CheckLetter(text)
		wantText(t, text, c, e, checkByPromise(text))
	}
}

func TestTexts39Bad(t *testing.T) {
	for text, want := range badTexts() {
		c, e := bar.CheckLetter(text)
		failText(t, "CheckLetter "+text[:min(len(text), 99)], c, e, want)
		m, e := bar.Code39(text)
		failText(t, "Code39 "+text[:min(len(text), 99)], m, e, want)
	}
}

func TestCode39(t *testing.T) {
	star, a := "100010111011101", "111010100010111"
	m, e := bar.Code39("A")
	wantText(t, "A", m, e, star+"0"+a+"0"+a+"0"+star)
	m, e = bar.Code39("% ")
	wantText(t, "% ", m, e, star+"0"+"101000100010001"+"0"+"100011101011101"+"0"+"111000101011101"+"0"+star)
	for _, text := range texts39() {
		m, e := bar.Code39(text)
		wantText(t, text, m, e, whole39("*"+text+checkByPromise(text)+"*"))
		if len(m) != 16*(len(text)+3)-1 {
			t.Error(text, len(m))
		}
	}
}

func TestRead39(t *testing.T) {
	for _, text := range texts39() {
		right := checkByPromise(text)
		for i := range letters {
			c := letters[i : i+1]
			m := whole39("*" + text + c + "*")
			for _, modules := range []string{m, backwards(m)} {
				got, e := bar.Read39(modules)
				if c == right {
					wantText(t, text, got, e, text)
				} else {
					failText(t, text+c, got, e, api.ErrSum)
				}
			}
		}
	}
}

// TestRead39Turned has letters that are others if they are turned round: P is a star then, and A is 1.
func TestRead39Turned(t *testing.T) {
	got, e := bar.Read39(whole39("PAAP"))
	wantText(t, "PAAP", got, e, "1")
	got, e = bar.Read39(whole39("PBAP"))
	failText(t, "PBAP", got, e, api.ErrSum)
	got, e = bar.Read39(whole39("*PAAPR*"))
	wantText(t, "*PAAPR*", got, e, "PAAP")
}

// TestRead39Bad has letters that Code39 never puts together so, with a right check letter where there is one.
func TestRead39Bad(t *testing.T) {
	long := strings.Repeat("0", 41)
	for _, whole := range []string{
		"*", "**", "***", "*0*", "*A*", "A", "AA", "AAA", "AAAA", "*AAA", "AAA*", "*AAAA", "AAAA*", "AAAAAA", "*AAP", "PAA*",
		"*A**", "*0**", "****", "*****", "*A*A*", "**AA*", "*AA**", "*A*AA*", "*AA*AA*", "*AA**AA*", "*" + long + "0*", "*" + long + "*0*",
		"*" + long + "00*", "*" + strings.Repeat("0", 300) + "*",
	} {
		m := whole39(whole)
		for _, modules := range []string{m, backwards(m)} {
			got, e := bar.Read39(modules)
			failText(t, whole, got, e, api.ErrForm)
		}
	}
	m := whole39("*AA*")
	for _, modules := range []string{
		"", "0", "1", m[:62], m[1:], m + "0", "0" + m, m + "1", "1" + m, m + m, m + "0" + m, m[:15], strings.Repeat("0", 63), strings.Repeat("1", 63),
		strings.Repeat("10", 31) + "1", strings.Repeat("2", 63), strings.Repeat("\x00", 63), strings.Repeat(m+"0", 5000) + m,
		// Between two letters there is a bar, a wide space, or nothing; a bar is four wide; a letter begins with a space.
		m[:15] + "1" + m[16:], m[:15] + "000" + m[16:], m[:15] + m[16:], m[:31] + "1" + m[32:], m[:16] + "1" + m[16:],
		m[:16] + "0" + m[17:], m[:15] + " " + m[16:], m[:47] + "2" + m[48:],
	} {
		got, e := bar.Read39(modules)
		failText(t, modules[:min(len(modules), 99)], got, e, api.ErrForm)
	}
}

// TestRead39Changed changes each module: never is there a letter left.
func TestRead39Changed(t *testing.T) {
	for _, text := range []string{"A", "P0", "FLAT-BED 1", letters[:40]} {
		m := modules39(t, text)
		for i := range len(m) {
			for _, c := range []byte("01 2\x00\xff") {
				other := m[:i] + string([]byte{c}) + m[i+1:]
				if other != m {
					got, e := bar.Read39(other)
					failText(t, text, got, e, api.ErrForm)
				}
			}
		}
	}
}

// TestRead39Pieces has all rows of nine pieces as a letter: only those of the table are letters.
func TestRead39Pieces(t *testing.T) {
	codes := codes39()
	var known []string
	for i := range letters {
		known = append(known, codes[letters[i]])
	}
	for n := range 1 << 9 {
		modules := ""
		for i := range 9 {
			modules += strings.Repeat(string("10"[i%2]), 1+2*(n>>i&1))
		}
		at := slices.Index(known, modules)
		got, e := bar.Read39(codes['*'] + "0" + modules + "0" + modules + "0" + codes['*'])
		if at < 0 {
			failText(t, modules, got, e, api.ErrForm)
		} else {
			wantText(t, modules, got, e, letters[at:at+1])
		}
	}
}
