package finisher

import (
	"slices"
	"strconv"
	"strings"

	"pianola/api"
	"pianola/step"
)

// line is a line of the table.
type line struct {
	text    string
	kind    string // the first word
	names   []string
	numbers []int
}

// tells reports whether a line is of a kind and its first names are these.
func (l line) tells(kind string, names ...string) bool {
	return l.kind == kind && slices.Equal(l.names[:len(names)], names)
}

// linesOf returns the lines of a text, without their line feeds.
func linesOf(text string) []string {
	raiseIf(len(text) > api.MaxText, api.ErrLong)
	raiseIf(text != "" && !strings.HasSuffix(text, "\n"), api.ErrTorn)
	var lines []string
	for one := range strings.Lines(text) {
		lines = append(lines, strings.TrimSuffix(one, "\n"))
	}
	return lines
}

// wordsOf returns the words of a line.
func wordsOf(text string) []string {
	words := strings.Split(text, " ")
	for _, word := range words {
		raiseIf(!isWord(word), api.ErrForm)
	}
	return words
}

// isWord reports whether a string is a word.
func isWord(s string) bool {
	for _, c := range []byte(s) {
		if c < 33 || c > 126 {
			return false
		}
	}
	return s != ""
}

// lineOf returns the line of words that have a form of the table, in which capital letters stand for names and small ones for numbers. For each number the greatest one is given; the least one is 1.
func lineOf(words []string, form string, greatest ...int) line {
	forms := strings.Fields(form)
	raiseIf(len(words) != len(forms), api.ErrForm)
	l := line{text: strings.Join(words, " "), kind: words[0]}
	for i, word := range words[1:] {
		if f := forms[i+1]; f[0] >= 'A' && f[0] <= 'Z' {
			l.names = append(l.names, word)
		} else {
			l.numbers = append(l.numbers, numbersOf(word, f)...)
		}
	}
	for _, name := range l.names {
		raiseIf(!step.Name(name), api.ErrName)
	}
	for i, n := range l.numbers {
		raiseIf(n < 1 || n > greatest[i], api.ErrRange)
	}
	return l
}

// numbersOf returns the numbers of a word of the form n or n/d.
func numbersOf(word, form string) []int {
	parts := strings.Split(word, "/")
	raiseIf(len(parts) != len(strings.Split(form, "/")), api.ErrForm)
	var numbers []int
	for _, part := range parts {
		raiseIf(!isNumber(part), api.ErrForm)
		// A number with too many digits becomes the greatest or least int, which is out of range, too.
		n, _ := strconv.Atoi(part)
		numbers = append(numbers, n)
	}
	return numbers
}

// isNumber reports whether a word is a decimal number.
func isNumber(word string) bool {
	digits := strings.TrimPrefix(word, "-")
	if digits == "" || digits[0] == '0' {
		return word == "0"
	}
	for _, c := range []byte(digits) {
		if c < '0' || c > '9' {
			return false
		}
	}
	return true
}
