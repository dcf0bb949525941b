package words

import (
	"strconv"
	"strings"

	"flatbed/api"
	"flatbed/page"
)

const (
	maxPart   = 3
	maxCost   = 100
	maxDigits = 3
	space     = " "
)

// CheckMixes returns what is wrong with mixes.
func CheckMixes(l []api.Mix) api.Errno {
	if len(l) > api.MaxMixes {
		return api.ErrLarge
	}
	known := map[[2]string]bool{}
	for _, m := range l {
		if page.Outside(len(m.From), 1, maxPart) || page.Outside(len(m.To), 1, maxPart) || m.From == m.To {
			return api.ErrForm
		}
		if page.Outside(m.Cost, 0, maxCost) {
			return api.ErrRange
		}
		parts := [2]string{m.From, m.To}
		if known[parts] {
			return api.ErrTwice
		}
		known[parts] = true
	}
	return api.OK
}

// Print writes mixes as lines.
func Print(l []api.Mix) (string, api.Errno) {
	if e := CheckMixes(l); e != api.OK {
		return "", e
	}
	written := strings.NewReplacer(space, `\s`, "\n", `\n`, `\`, `\\`)
	var text strings.Builder
	for _, m := range l {
		text.WriteString(written.Replace(m.From) + space + written.Replace(m.To) + space + strconv.Itoa(m.Cost) + "\n")
	}
	return text.String(), api.OK
}

// Parse reads what Print writes; the second result is the number of the line with ErrSyntax, otherwise 0.
func Parse(text string) ([]api.Mix, int, api.Errno) {
	if len(text) > api.MaxText {
		return nil, 0, api.ErrLarge
	}
	var l []api.Mix
	for rest := text; rest != ""; {
		line, after, ended := strings.Cut(rest, "\n")
		m, ok := readMix(line)
		if !ended || !ok {
			return nil, len(l), api.ErrSyntax
		}
		l = append(l, m)
		rest = after
	}
	if e := CheckMixes(l); e != api.OK {
		return nil, 0, e
	}
	return l, 0, api.OK
}

func readMix(line string) (m api.Mix, ok bool) {
	parts := strings.Split(line, space)
	if len(parts) != 3 {
		return m, false
	}
	if m.From, ok = readPart(parts[0]); !ok {
		return m, false
	}
	if m.To, ok = readPart(parts[1]); !ok {
		return m, false
	}
	m.Cost, ok = page.Number(parts[2], maxDigits)
	return m, ok
}

// readPart reads what stands for at least one byte. A backslash stands by itself nowhere.
func readPart(text string) (part string, ok bool) {
	var read []byte
	for i := 0; i < len(text); i++ {
		c := text[i]
		if c == '\\' {
			i++
			if c, ok = meant(text[i:]); !ok {
				return "", false
			}
		}
		read = append(read, c)
	}
	return string(read), len(read) > 0
}

// meant is the byte that is written by a backslash ahead of this text.
func meant(text string) (c byte, ok bool) {
	switch {
	case strings.HasPrefix(text, "s"):
		return ' ', true
	case strings.HasPrefix(text, "n"):
		return '\n', true
	case strings.HasPrefix(text, `\`):
		return '\\', true
	}
	return 0, false
}
