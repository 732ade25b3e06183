package finisher

import (
	"iter"
	"slices"
	"strconv"
	"strings"

	"pianola/api"
)

// firstLine is the first line of a file.
const firstLine = "pianola"

// sorted yields names in their order.
func sorted(names iter.Seq[string]) iter.Seq[string] {
	return slices.Values(slices.Sorted(names))
}

// names yields, in their order, the names that follow the first ones in kept lines of a kind.
func (b *Book) names(kind string, first ...string) iter.Seq[string] {
	var names []string
	for l := range b.told(kind, first...) {
		names = append(names, l.names[len(first)])
	}
	return sorted(slices.Values(names))
}

// file returns the file of a book.
func (b *Book) file() string {
	between := b.between()
	lines := slices.Concat([]string{firstLine}, between, []string{lastLine(len(between))})
	return strings.Join(lines, "\n") + "\n"
}

// lastLine returns the last line of a file with so many lines between.
func lastLine(between int) string {
	return "end " + strconv.Itoa(between)
}

// between returns the lines of a file between the first and the last one.
func (b *Book) between() []string {
	var lines []string
	for currency := range b.names("cur") {
		lines = append(lines, b.find("cur", currency).text)
	}
	for take := range b.names("take") {
		lines = append(lines, b.find("take", take).text)
		for artist := range b.names("part", take) {
			lines = append(lines, b.find("part", take, artist).text)
		}
	}
	for edition := range b.names("edition") {
		lines = append(lines, b.find("edition", edition).text)
		if copies := b.sum("sell", edition); copies > 0 {
			lines = append(lines, "sell "+edition+" "+strconv.Itoa(copies))
		}
	}
	return lines
}

// read does the lines of a file, or raises its error.
func (b *Book) read(file string) {
	raiseIf(file == "", api.ErrTorn)
	lines := linesOf(file)
	last := len(lines) - 1
	raiseIf(last < 1 || lines[0] != firstLine || lines[last] != lastLine(last-1), api.ErrForm)
	for _, one := range lines[1:last] {
		b.do(one)
	}
	raiseIf(b.file() != file, api.ErrOrder)
}
