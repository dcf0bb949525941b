package bar

import (
	"strings"

	"flatbed/api"
	"flatbed/page"
)

const (
	letters39   = "0123456789ABCDEFGHIJKLMNOPQRSTUVWXYZ-. $/+%*"
	star        = "*"
	starNumber  = len(letters39) - len(star)
	maxLetters  = 40
	leastWhole  = 3 // letters with the check letter and both stars
	mostWhole   = maxLetters + 3
	narrow      = 'n'
	wide        = 'w'
	wideModules = 3
	between     = "0"
	letterStep  = 15 + len(between)
)

// pieces39 has the pieces of each letter, in the order of letters39: n is narrow, w is wide.
var pieces39 = [...]string{
	"nnnwwnwnn", "wnnwnnnnw", "nnwwnnnnw", "wnwwnnnnn", "nnnwwnnnw", "wnnwwnnnn", "nnwwwnnnn", "nnnwnnwnw", "wnnwnnwnn",
	"nnwwnnwnn", "wnnnnwnnw", "nnwnnwnnw", "wnwnnwnnn", "nnnnwwnnw", "wnnnwwnnn", "nnwnwwnnn", "nnnnnwwnw", "wnnnnwwnn",
	"nnwnnwwnn", "nnnnwwwnn", "wnnnnnnww", "nnwnnnnww", "wnwnnnnwn", "nnnnwnnww", "wnnnwnnwn", "nnwnwnnwn", "nnnnnnwww",
	"wnnnnnwwn", "nnwnnnwwn", "nnnnwnwwn", "wwnnnnnnw", "nwwnnnnnw", "wwwnnnnnn", "nwnnwnnnw", "wwnnwnnnn", "nwwnwnnnn",
	"nwnnnnwnw", "wwnnnnwnn", "nwwnnnwnn", "nwnwnwnnn", "nwnwnnnwn", "nwnnnwnwn", "nnnwnwnwn", "nwnnwnwnn",
}

// CheckLetter returns the letter whose number is the sum of the numbers of the letters.
func CheckLetter(text string) (string, api.Errno) {
	if text == "" {
		return "", api.ErrEmpty
	}
	if len(text) > maxLetters {
		return "", api.ErrLarge
	}
	sum := 0
	for i := range len(text) {
		number := numberOf(text[i])
		if page.Outside(number, 0, starNumber-1) {
			return "", api.ErrForm
		}
		sum += number
	}
	return string(letters39[sum%starNumber]), api.OK
}

// numberOf returns the number of a letter; that of the star comes behind all others, and -1 stands for no letter.
func numberOf(letter byte) int { return strings.IndexByte(letters39, letter) }

// Code39 returns the modules of a text with its check letter.
func Code39(text string) (string, api.Errno) {
	check, e := CheckLetter(text)
	if e != api.OK {
		return "", e
	}
	whole := star + text + check + star
	codes := make([]string, len(whole))
	for i := range codes {
		codes[i] = modulesOf(pieces39[numberOf(whole[i])])
	}
	return strings.Join(codes, between), api.OK
}

// modulesOf returns the modules of narrow and wide pieces, the first of which is a bar.
func modulesOf(pieces string) string {
	var modules []byte
	for i := range len(pieces) {
		times := 1
		if pieces[i] == wide {
			times = wideModules
		}
		modules = appendRun(modules, i, times)
	}
	return string(modules)
}

// appendRun adds the modules of the i-th of runs that begin with a bar.
func appendRun(modules []byte, i, times int) []byte {
	module := byte(barModule)
	if i%2 == 1 {
		module = spaceModule
	}
	for range times {
		modules = append(modules, module)
	}
	return modules
}

// Read39 returns the text of modules without its check letter.
func Read39(modules string) (string, api.Errno) { return eitherWay(modules, read39) }

func read39(modules string) (string, api.Errno) {
	whole, ok := readLetters(modules)
	if !ok {
		return "", api.ErrForm
	}
	last := len(whole) - 1
	inner := whole[1:last]
	if whole != star+inner+star || strings.Contains(inner, star) {
		return "", api.ErrForm
	}
	text := inner[:len(inner)-1]
	check, e := CheckLetter(text)
	if e != api.OK {
		return "", api.ErrForm
	}
	if inner != text+check {
		return "", api.ErrSum
	}
	return text, api.OK
}

// readLetters returns all letters of modules, with the stars and the check letter.
func readLetters(modules string) (letters string, ok bool) {
	modules += between
	if len(modules)%letterStep != 0 || page.Outside(len(modules)/letterStep, leastWhole, mostWhole) {
		return "", false
	}
	known := lettersByModules()
	for ; modules != ""; modules = modules[letterStep:] {
		letter, ok := known[modules[:letterStep]]
		if !ok {
			return "", false
		}
		letters += string(letter)
	}
	return letters, true
}

// lettersByModules returns all letters with their modules, each with the space behind it.
func lettersByModules() map[string]byte {
	known := map[string]byte{}
	for i, pieces := range pieces39 {
		known[modulesOf(pieces)+between] = letters39[i]
	}
	return known
}
