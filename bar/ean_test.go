package bar_test

import (
	"strings"
	"testing"

	"flatbed/api"
	"flatbed/bar"
)

// tableEAN is that of P131: each digit with its modules as L and as R, and the left side of codes that begin with it.
const tableEAN = `0 0001101 1110010 LLLLLL
1 0011001 1100110 LLGLGG
2 0010011 1101100 LLGGLG
3 0111101 1000010 LLGGGL
4 0100011 1011100 LGLLGG
5 0110001 1001110 LGGLLG
6 0101111 1010000 LGGGLL
7 0111011 1000100 LGLGLG
8 0110111 1001000 LGLGGL
9 0001011 1110100 LGGLGL`

// rowEAN returns what the table has of a digit.
func rowEAN(digit byte) (left, right, side string) {
	row := tableEAN[25*int(digit-'0'):]
	return row[2:9], row[10:17], row[18:24]
}

// eanByPromise makes modules of 13 digits, whatever the last one is.
func eanByPromise(digits string) string {
	_, _, side := rowEAN(digits[0])
	return eanAs(digits[1:], side)
}

// eanAs makes modules of 12 digits, the first six of which are coded as side says.
func eanAs(digits, side string) string {
	modules := "101"
	for i := range 6 {
		left, right, _ := rowEAN(digits[i])
		if side[i] == 'G' {
			left = backwards(right)
		}
		modules += left
	}
	modules += "01010"
	for i := 6; i < 12; i++ {
		_, right, _ := rowEAN(digits[i])
		modules += right
	}
	return modules + "101"
}

func TestCheckDigit(t *testing.T) {
	for digits, want := range map[string]int{
		"400638133393": 1, "000000000000": 0, "000000000001": 7, "000000000010": 9, "100000000000": 9, "010000000000": 7,
		"999999999999": 4, "978316148410": 0, "123456789012": 8, "090909090909": 8, "909090909090": 6,
		"505050505050": 0, "050505050505": 0, "550000000000": 0,
	} {
		if n, e := bar.CheckDigit(digits); n != want || e != api.OK {
			t.Error(digits, n, e)
		}
	}
	for i := range 12 {
		for d := range 10 {
			digits := strings.Repeat("0", i) + string(byte('0'+d)) + strings.Repeat("0", 11-i)
			n, e := bar.CheckDigit(digits)
			if e != api.OK || n < 0 || n > 9 || (n+d+2*(i%2)*d)%10 != 0 {
				t.Error(digits, n, e)
			}
		}
	}
}

// badDigits are not count digits.
func badDigits(count int) []string {
	l := []string{"", "0", strings.Repeat("1", count-1), strings.Repeat("0", count+1), strings.Repeat("0", 10*count), strings.Repeat("0", 256+count)}
	for _, c := range []string{" ", "/", ":", "a", "-", "\x00", "\xff", "\xb1", "O"} {
		for _, at := range []int{0, 1, count / 2, count - 1} {
			l = append(l, strings.Repeat("0", at)+c+strings.Repeat("0", count-1-at))
		}
	}
	return append(l, " "+strings.Repeat("0", count), strings.Repeat("0", count)+"\n", strings.Repeat("0", count-2)+"\xc2\xb2")
}

func TestCheckDigitBad(t *testing.T) {
	for _, digits := range badDigits(12) {
		if n, e := bar.CheckDigit(digits); n != 0 || e != api.ErrForm {
			t.Errorf("%q %d %d", digits, n, e)
		}
	}
}

func TestEAN(t *testing.T) {
	m, e := bar.EAN("4006381333931")
	wantText(t, "EAN", m, e, "10100011010100111010111101111010001001011001101010100001010000101000010111010010000101100110101")
	m, e = bar.EAN("0000000000000")
	wantText(t, "EAN", m, e, "101"+strings.Repeat("0001101", 6)+"01010"+strings.Repeat("1110010", 6)+"101")
	for seed := range 200 {
		digits := string(byte('0'+seed%10)) + digits13(t, seed)[1:12]
		n, _ := bar.CheckDigit(digits)
		digits += string(byte('0' + n))
		m, e := bar.EAN(digits)
		wantText(t, digits, m, e, eanByPromise(digits))
		if len(m) != 95 {
			t.Error(digits, len(m))
		}
	}
}

func TestEANBad(t *testing.T) {
	for _, digits := range badDigits(13) {
		m, e := bar.EAN(digits)
		failText(t, digits, m, e, api.ErrForm)
	}
	// Digits that are wrong in both ways are those of another length: the form comes first.
	m, e := bar.EAN("400638133393")
	failText(t, "12 digits", m, e, api.ErrForm)
	m, e = bar.EAN("40063813339322")
	failText(t, "14 digits", m, e, api.ErrForm)
	for seed := range 20 {
		digits := digits13(t, seed)
		for at := range 13 {
			for d := byte('0'); d <= '9'; d++ {
				if d == digits[at] {
					continue
				}
				other := digits[:at] + string(d) + digits[at+1:]
				m, e := bar.EAN(other)
				failText(t, other, m, e, api.ErrSum)
			}
		}
	}
}

func TestReadEAN(t *testing.T) {
	for seed := range 200 {
		digits := string(byte('0'+seed%10)) + digits13(t, seed)[1:12]
		n, _ := bar.CheckDigit(digits)
		for d := range 10 {
			all := digits + string(byte('0'+d))
			for _, m := range []string{eanByPromise(all), backwards(eanByPromise(all))} {
				got, e := bar.ReadEAN(m)
				if d == n {
					wantText(t, all, got, e, all)
				} else {
					failText(t, all, got, e, api.ErrSum)
				}
			}
		}
	}
}

// TestReadEANSides has all rows of L and G on the left: only those of the table are known.
func TestReadEANSides(t *testing.T) {
	first := map[string]byte{}
	for d := byte('0'); d <= '9'; d++ {
		_, _, side := rowEAN(d)
		first[side] = d
	}
	for n := range 64 {
		side := ""
		for i := range 6 {
			side += string("LG"[n>>i&1])
		}
		digits := digits13(t, n)[:12]
		d, known := first[side]
		if known {
			digits = string(d) + digits[1:]
		}
		check, _ := bar.CheckDigit(digits)
		digits += string(byte('0' + check))
		for _, m := range []string{eanAs(digits[1:], side), backwards(eanAs(digits[1:], side))} {
			got, e := bar.ReadEAN(m)
			if known {
				wantText(t, side, got, e, digits)
			} else {
				failText(t, side, got, e, api.ErrForm)
			}
		}
	}
}

// TestReadEANChanged changes each module, and each digit to every way that it can be coded.
func TestReadEANChanged(t *testing.T) {
	for seed := range 12 {
		digits := digits13(t, seed)
		m := eanByPromise(digits)
		for i := range m {
			for _, c := range []byte("012 \x00\xff") {
				other := m[:i] + string(c) + m[i+1:]
				if other == m {
					continue
				}
				got, e := bar.ReadEAN(other)
				want := readEANByPromise(other)
				if got != "" || e != want {
					t.Error(i, c, got, e, want)
				}
			}
		}
	}
}

// readEANByPromise returns the error of modules of which just one is not right.
func readEANByPromise(modules string) api.Errno {
	for _, m := range []string{modules, backwards(modules)} {
		for first := byte('0'); first <= '9'; first++ {
			_, _, side := rowEAN(first)
			digits := ""
			for d := range 10 * 12 {
				i, d := d/10, byte('0'+d%10)
				left, right, _ := rowEAN(d)
				at := 3 + 7*i + i/6*5
				if i < 6 && side[i] == 'L' && m[at:at+7] == left || i < 6 && side[i] == 'G' && m[at:at+7] == backwards(right) || i >= 6 && m[at:at+7] == right {
					digits += string(d)
				}
			}
			if len(digits) == 12 && eanAs(digits, side) == m {
				return api.ErrSum
			}
		}
	}
	return api.ErrForm
}

func TestReadEANBad(t *testing.T) {
	m := eanByPromise("4006381333931")
	for _, bad := range []string{
		"", "1", "101", m[:94], m[1:], m + "0", m + "1", "0" + m, m + m, m[:93] + "10", m + strings.Repeat("0", 256),
		strings.Repeat("0", 95), strings.Repeat("1", 95), strings.Repeat("10", 47) + "1", strings.Repeat("2", 95), strings.Repeat("\xff", 95),
		"101" + strings.Repeat("0", 42) + "01010" + strings.Repeat("0", 42) + "101", strings.Repeat("101", 100000),
		// The sides are exchanged; both sides are right ones; both are left ones.
		"101" + m[50:92] + "01010" + m[3:45] + "101", "101" + m[50:92] + "01010" + m[50:92] + "101", "101" + m[3:45] + "01010" + m[3:45] + "101",
		// The guards are others.
		"111" + m[3:], m[:92] + "111", m[:45] + "01110" + m[50:], m[:45] + "10101" + m[50:], "100" + m[3:], "001" + m[3:],
	} {
		got, e := bar.ReadEAN(bad)
		failText(t, bad[:min(len(bad), 200)], got, e, api.ErrForm)
	}
}
