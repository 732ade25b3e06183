package finisher

import (
	"iter"

	"pianola/api"
)

// A book keeps its lines and nothing else: what there is and what is sold is always looked up in them, so that removed lines leave no trace.

// keep keeps one more line.
func (b *Book) keep(l line) {
	raiseIf(len(b.lines) >= MaxLines, api.ErrFull)
	b.lines = append(b.lines, l)
}

// keepNew keeps a line whose first name must be new among the lines of its kind, of which there can be so many.
func (b *Book) keepNew(l line, most int) {
	raiseIf(b.has(l.kind, l.names[0]), api.ErrTwice)
	raiseIf(b.count(l.kind) >= most, api.ErrMany)
	b.keep(l)
}

// told yields the kept lines of a kind whose first names are these.
func (b *Book) told(kind string, names ...string) iter.Seq[line] {
	return func(yield func(line) bool) {
		for _, l := range b.lines {
			if l.tells(kind, names...) && !yield(l) {
				return
			}
		}
	}
}

// has reports whether there is such a line.
func (b *Book) has(kind string, names ...string) bool {
	return b.count(kind, names...) > 0
}

// count returns how many such lines there are.
func (b *Book) count(kind string, names ...string) int {
	number := 0
	for range b.told(kind, names...) {
		number++
	}
	return number
}

// sum returns the sum of the first numbers of such lines.
func (b *Book) sum(kind string, names ...string) int {
	sum := 0
	for l := range b.told(kind, names...) {
		sum += l.numbers[0]
	}
	return sum
}

// find returns the first such line.
func (b *Book) find(kind string, names ...string) line {
	for l := range b.told(kind, names...) {
		return l
	}
	return line{}
}
