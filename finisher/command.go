package finisher

import (
	"slices"

	"pianola/api"
)

// The greatest numbers in lines.
const (
	maxWorth = 1000
	maxPrice = 100000
	whole    = 1000 // thousandths of what a take brings
)

// commands has for each first word of a line what does such lines. It is filled before main, as the document's section 'Ways' asks; but no result is computed with it, so that all results follow from the arguments and the book alone (rule 3b of LANGUAGE.md): lines are done by commandOf.
var commands = commandTable()

// commandTable returns, for each first word of a line, what does such lines. Each command makes its checks in the order of P14.1, before it changes anything.
func commandTable() map[string]func(*Book, []string) {
	return map[string]func(*Book, []string){
		"cur":     (*Book).cur,
		"take":    (*Book).take,
		"part":    (*Book).part,
		"edition": (*Book).edition,
		"sell":    (*Book).sell,
		"mark":    (*Book).mark,
		"back":    (*Book).back,
	}
}

// commandOf returns what does the lines with a first word, or nil if it is none of the table.
func commandOf(first string) func(*Book, []string) {
	return commandTable()[first]
}

// do does a line, or raises its error and changes nothing.
func (b *Book) do(text string) {
	raiseIf(len(text) > MaxLine, api.ErrLong)
	words := wordsOf(text)
	command := commandOf(words[0])
	raiseIf(command == nil, api.ErrKind)
	command(b, words)
}

func (b *Book) cur(words []string) {
	b.keepNew(lineOf(words, "cur C n/d", maxWorth, maxWorth), MaxCurrencies)
}

func (b *Book) take(words []string) {
	b.keepNew(lineOf(words, "take T"), MaxTakes)
}

func (b *Book) part(words []string) {
	l := lineOf(words, "part T A n", whole)
	take, artist := l.names[0], l.names[1]
	raiseIf(!b.has("take", take), api.ErrNone)
	raiseIf(b.has("part", take, artist), api.ErrTwice)
	raiseIf(b.sum("part", take)+l.numbers[0] > whole, api.ErrSum)
	raiseIf(b.count("part", take) >= MaxParts, api.ErrMany)
	b.keep(l)
}

func (b *Book) edition(words []string) {
	l := lineOf(words, "edition E T p C", maxPrice)
	take, currency := l.names[1], l.names[2]
	raiseIf(!b.has("take", take) || !b.has("cur", currency), api.ErrNone)
	b.keepNew(l, MaxEditions)
}

func (b *Book) sell(words []string) {
	l := lineOf(words, "sell E n", MaxCopies)
	edition := l.names[0]
	raiseIf(!b.has("edition", edition), api.ErrNone)
	raiseIf(b.sum("sell", edition)+l.numbers[0] > MaxCopies, api.ErrOver)
	b.keep(l)
}

func (b *Book) mark(words []string) {
	b.keepNew(lineOf(words, "mark M"), MaxMarks)
}

func (b *Book) back(words []string) {
	mark := lineOf(words, "back M").names[0]
	at := slices.IndexFunc(b.lines, func(l line) bool { return l.tells("mark", mark) })
	raiseIf(at < 0, api.ErrNone)
	b.lines = slices.Clone(b.lines[:at+1])
}
