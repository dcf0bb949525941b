package words

import (
	"maps"
	"slices"
	"strings"

	"flatbed/api"
	"flatbed/page"
	"flatbed/part"
)

const (
	maxTexts = 1000
	maxLines = 10000
	blanks   = " \t"
	hyphen   = "-"
)

// Correct replaces words that the dictionary does not have by those that were probably written; it also returns what it
// replaced.
func Correct(text string, d *Dict, l []api.Mix, most int) (string, []api.Fix, api.Errno) {
	if d == nil {
		return "", nil, api.ErrForm
	}
	if len(text) > api.MaxText {
		return "", nil, api.ErrLarge
	}
	if e := CheckMixes(l); e != api.OK {
		return "", nil, e
	}
	if page.Outside(most, 0, maxDistance) {
		return "", nil, api.ErrRange
	}
	correct := corrector(d, l, most)
	var right strings.Builder
	var fixes []api.Fix
	at := 0
	for _, t := range Split(text) {
		fresh := t.Text
		if t.Word {
			fresh = correct(t.Text)
		}
		if fresh != t.Text {
			fixes = append(fixes, api.Fix{At: at, Old: t.Text, New: fresh})
		}
		right.WriteString(fresh)
		at += len(t.Text)
	}
	return right.String(), fixes, api.OK
}

// corrector returns a function that corrects a word. It looks for each word only once, as texts repeat their words.
func corrector(d *Dict, l []api.Mix, most int) func(word string) string {
	known := map[string]string{}
	return func(word string) string {
		fresh, ok := known[word]
		if !ok {
			fresh = d.correct(word, l, most)
			known[word] = fresh
		}
		return fresh
	}
}

func (d *Dict) correct(word string, l []api.Mix, most int) string {
	if d.knows(word) {
		return word
	}
	if g, ok := d.best(word, l, most); ok {
		return g.Text
	}
	low := small(word)
	if low == word {
		return word
	}
	g, ok := d.best(low, l, most)
	if !ok {
		return word
	}
	return inLetters(word, g.Text)
}

// inLetters writes a text with great letters as a word has them: throughout, or the first one.
func inLetters(word, text string) string {
	switch {
	case isAllGreat(word):
		return great(text)
	case isGreat(word[0]):
		return great(text[:1]) + text[1:]
	}
	return text
}

// isAllGreat reports whether a word is written in great letters; a single one does not tell.
func isAllGreat(word string) bool {
	count := 0
	for i := range len(word) {
		if isSmall(word[i]) {
			return false
		}
		if isGreat(word[i]) {
			count++
		}
	}
	return count > 1
}

// JoinLines puts lines together, and words that are divided at their ends.
func JoinLines(lines []string, d *Dict) (string, api.Errno) {
	if d == nil {
		return "", api.ErrForm
	}
	if len(lines) > maxLines || total(lines) > api.MaxText {
		return "", api.ErrLarge
	}
	for _, line := range lines {
		if strings.Contains(line, "\n") {
			return "", api.ErrForm
		}
	}
	j := joiner{dict: d, word: -1, divided: -1}
	for _, line := range lines {
		j.add(strings.Trim(line, blanks))
	}
	return string(j.text), api.OK
}

// total is how many bytes texts have in all.
func total(texts []string) int {
	n := 0
	for _, text := range texts {
		n += len(text)
	}
	return n
}

// A joiner puts lines together: the text so far, and what stands between it and the next line. word is where the word
// begins with which the text ends; divided, where the one begins that its last line divides by a hyphen; -1 without any.
type joiner struct {
	dict          *Dict
	text          []byte
	between       string
	word, divided int
}

func (j *joiner) add(line string) {
	if line == "" {
		j.between, j.divided = "\n", -1
		return
	}
	switch {
	case len(j.text) == 0:
	case j.divided < 0 || !isLetter(line[0]):
		j.write(j.between)
	case j.isOneWord(line):
		j.text, j.word = j.text[:len(j.text)-len(hyphen)], j.divided
	}
	body, hyphened := strings.CutSuffix(line, hyphen)
	j.write(body)
	j.between, j.divided = space, -1
	if hyphened {
		if body != "" && isLetter(body[len(body)-1]) {
			j.divided = j.word
		}
		j.write(hyphen)
	}
}

func (j *joiner) write(text string) {
	for i := range len(text) {
		switch c := text[i]; {
		case !inWord(c):
			j.word = -1
		case j.word < 0 && isLetter(c):
			j.word = len(j.text) + i
		}
	}
	j.text = append(j.text, text...)
}

// isOneWord reports whether the hyphen at the end of the text only divides a word, which goes on in a line. A part that is
// too long for a word is cut where it is still too long, so that long ones need not be copied again and again.
func (j *joiner) isOneWord(line string) bool {
	end := min(len(j.text)-len(hyphen), j.divided+longest+1)
	_, wordEnd := wordAt(line, 0)
	first, second := string(j.text[j.divided:end]), line[:wordEnd]
	return j.dict.knows(first+second) || !j.dict.knows(first) && !j.dict.knows(second)
}

// Paragraphs divides the boxes of lines into paragraphs, as numbers of lines.
func Paragraphs(l []api.Box, indent, gap int) ([][]int, api.Errno) {
	hull, e := part.Hull(l)
	if e != api.OK && e != api.ErrEmpty {
		return nil, e
	}
	if page.Outside(indent, 0, api.MaxPlace) || page.Outside(gap, 0, api.MaxPlace) {
		return nil, api.ErrRange
	}
	begins := func(i int) bool {
		return i == 0 || l[i].X-hull.X >= indent || l[i].Y-(l[i-1].Y+l[i-1].H) > gap
	}
	var paragraphs [][]int
	for i := range l {
		if begins(i) {
			paragraphs = append(paragraphs, nil)
		}
		last := len(paragraphs) - 1
		paragraphs[last] = append(paragraphs[last], i)
	}
	return paragraphs, api.OK
}

// Learn counts the words of texts, and returns those that occur at least least times.
func Learn(texts []string, least int) ([]api.Word, api.Errno) {
	if len(texts) > maxTexts || total(texts) > api.MaxText {
		return nil, api.ErrLarge
	}
	if page.Outside(least, 1, maxCount) {
		return nil, api.ErrRange
	}
	counts := map[string]int{}
	for _, text := range texts {
		for _, word := range wordsOf(small(text)) {
			counts[word]++
		}
	}
	var l []api.Word
	for _, word := range slices.Sorted(maps.Keys(counts)) {
		if counts[word] >= least {
			l = append(l, api.Word{Text: word, Count: counts[word]})
		}
	}
	if len(l) > api.MaxDict {
		return nil, api.ErrLarge
	}
	return l, api.OK
}
