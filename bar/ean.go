package bar

import (
	"strings"

	"flatbed/api"
)

const (
	digitsEAN    = 13
	digitsAtSide = 6
	digitModules = 7
	edge         = "101"
	middle       = "01010"
	modulesEAN   = 2*len(edge) + 2*digitsAtSide*digitModules + len(middle)
	codedAsG     = 'G'
	codedAsR     = 'R'
	rightSide    = "RRRRRR"
)

// leftCodes has the modules of each digit as L.
var leftCodes = [...]string{
	"0001101", "0011001", "0010011", "0111101", "0100011", "0110001", "0101111", "0111011", "0110111", "0001011",
}

// leftSides tells how the digits on the left are coded, for each first digit.
var leftSides = [...]string{
	"LLLLLL", "LLGLGG", "LLGGLG", "LLGGGL", "LGLLGG", "LGGLLG", "LGGGLL", "LGLGLG", "LGLGGL", "LGGLGL",
}

// CheckDigit returns what 12 digits lack to a multiple of 10, if each second one counts three times.
func CheckDigit(digits string) (int, api.Errno) {
	if !areDigits(digits, digitsEAN-1) {
		return 0, api.ErrForm
	}
	return checkDigit(digits), api.OK
}

func checkDigit(digits string) int {
	sum := 0
	for i := range len(digits) {
		times := 1 + i%2*2
		sum += times * int(digits[i]-'0')
	}
	return (10 - sum%10) % 10
}

func areDigits(text string, count int) bool {
	return len(text) == count && strings.Trim(text, "0123456789") == ""
}

func checkEAN(digits string) api.Errno {
	if !areDigits(digits, digitsEAN) {
		return api.ErrForm
	}
	last := digitsEAN - 1
	if int(digits[last]-'0') != checkDigit(digits[:last]) {
		return api.ErrSum
	}
	return api.OK
}

// EAN returns the modules of 13 digits.
func EAN(digits string) (string, api.Errno) {
	if e := checkEAN(digits); e != api.OK {
		return "", e
	}
	side := leftSides[digits[0]-'0'] + rightSide
	modules := edge
	for i := range len(side) {
		if i == digitsAtSide {
			modules += middle
		}
		modules += codeOf(int(digits[i+1]-'0'), side[i])
	}
	return modules + edge, api.OK
}

// codeOf returns the modules of a digit as L, G or R.
func codeOf(digit int, as byte) string {
	left := leftCodes[digit]
	switch as {
	case codedAsG:
		return backwards(exchanged(left))
	case codedAsR:
		return exchanged(left)
	}
	return left
}

func exchanged(modules string) string {
	b := []byte(modules)
	for i := range b {
		b[i] ^= barModule ^ spaceModule
	}
	return string(b)
}

// ReadEAN returns the digits of modules.
func ReadEAN(modules string) (string, api.Errno) { return eitherWay(modules, readEAN) }

func readEAN(modules string) (string, api.Errno) {
	codes := sidesOf(modules)
	if codes == "" {
		return "", api.ErrForm
	}
	side, digits := readDigits(codes)
	for first := range leftSides {
		if side == leftSides[first]+rightSide {
			digits = string(byte('0'+first)) + digits
			if e := checkEAN(digits); e != api.OK {
				return "", e
			}
			return digits, api.OK
		}
	}
	return "", api.ErrForm
}

// sidesOf returns what stands on both sides between the guards, and nothing if these are not there.
func sidesOf(modules string) string {
	if len(modules) != modulesEAN || !strings.HasPrefix(modules, edge) || !strings.HasSuffix(modules, edge) {
		return ""
	}
	modules = modules[len(edge) : modulesEAN-len(edge)]
	left, rest := modules[:digitsAtSide*digitModules], modules[digitsAtSide*digitModules:]
	right, ok := strings.CutPrefix(rest, middle)
	if !ok {
		return ""
	}
	return left + right
}

// readDigits returns how digits are coded, and which ones they are. Of what is no digit, both are 0, which no side has.
func readDigits(modules string) (side, digits string) {
	known := digitsByCode()
	for ; modules != ""; modules = modules[digitModules:] {
		c := known[modules[:digitModules]]
		side += string(c.as)
		digits += string(c.digit)
	}
	return side, digits
}

// A coded is a digit, and how it is coded: as L, G or R.
type coded struct{ as, digit byte }

// digitsByCode returns all digits with their modules, which are others for each digit and each way.
func digitsByCode() map[string]coded {
	known := map[string]coded{}
	for digit := range leftCodes {
		for _, as := range []byte("LGR") {
			known[codeOf(digit, as)] = coded{as, byte('0' + digit)}
		}
	}
	return known
}
