package finisher_test

import (
	"fmt"
	"math"
	"slices"
	"strings"
	"testing"

	"pianola/api"
	"pianola/edit"
	"pianola/finisher"
)

// linesS returns the lines of the chapter's examples.
func linesS() []string {
	return []string{"cur mark 3/2", "take t", "part t ana 333", "part t ben 250", "edition e t 7 mark", "sell e 5"}
}

// plus returns lines with some more.
func plus(lines []string, more ...string) []string { return slices.Concat(lines, more) }

// bookOf returns a book that was told lines.
func bookOf(t *testing.T, lines ...string) *finisher.Book {
	t.Helper()
	b := finisher.New()
	for _, line := range lines {
		if e := b.Do(line); e != api.OK {
			t.Fatalf("Do %q: %d", line, e)
		}
	}
	return b
}

// each returns a line for each of so many names (x, xb, xc and so on), which stand between a beginning and an end.
func each(names int, before, after string) []string {
	lines := []string{before + "x" + after}
	for i := 1; i < names; i++ {
		lines = append(lines, fmt.Sprintf("%sx%c%s", before, 'a'+i, after))
	}
	return lines
}

// accounts returns accounts: artist, cents, and so on.
func accounts(l ...any) []finisher.Account {
	var all []finisher.Account
	for ; len(l) > 0; l = l[2:] {
		all = append(all, finisher.Account{Artist: l[0].(string), Cents: l[1].(int)})
	}
	return all
}

// P14.1: New returns a book without lines, and each one another book.
func TestNew(t *testing.T) {
	one, other := finisher.New(), finisher.New()
	if len(one.Lines()) != 0 || len(one.Accounts()) != 0 || one.House() != 0 || one.File() != "pianola\nend 0\n" {
		t.Errorf("a new book: %q, %v, %d, %q", one.Lines(), one.Accounts(), one.House(), one.File())
	}
	if e := one.Do("take t"); e != api.OK || len(one.Lines()) != 1 || len(other.Lines()) != 0 {
		t.Errorf("Do: %d, then %q, and another book %q", e, one.Lines(), other.Lines())
	}
}

// texts are lines that are told after S, with their errors.
var texts = []struct {
	line string
	want api.Errno
}{
	// what is done
	{"cur x 1/1", api.OK},
	{"cur abcdefgh 1000/1000", api.OK},
	{"cur t 1/1", api.OK},
	{"take mark", api.OK},
	{"take take", api.OK},
	{"part t cy 1", api.OK},
	{"part t t 417", api.OK},
	{"edition t t 1 mark", api.OK},
	{"edition f t 100000 mark", api.OK},
	{"sell e 1", api.OK},
	{"sell e 999995", api.OK},
	{"mark t", api.OK},
	{"mark back", api.OK},

	// the length
	{"what " + strings.Repeat("x", 55), api.ErrKind},
	{"what " + strings.Repeat("x", 56), api.ErrLong},
	{strings.Repeat(" ", 60), api.ErrForm},
	{strings.Repeat(" ", 61), api.ErrLong},
	{strings.Repeat("é", 30), api.ErrForm},
	{strings.Repeat("é", 31), api.ErrLong},
	{"sell e 1" + strings.Repeat("0", 52), api.ErrRange},
	{"sell e 1" + strings.Repeat("0", 53), api.ErrLong},

	// what is a line
	{"", api.ErrForm},
	{" ", api.ErrForm},
	{" take u", api.ErrForm},
	{"take u ", api.ErrForm},
	{"take  u", api.ErrForm},
	{"take\tu", api.ErrForm},
	{"take u\n", api.ErrForm},
	{"take u\r", api.ErrForm},
	{"take u\x00", api.ErrForm},
	{"take u\x1f", api.ErrForm},
	{"take u\x7f", api.ErrForm},
	{"take u\x80", api.ErrForm},
	{"take u\xff", api.ErrForm},
	{"take é", api.ErrForm},
	{"what  is", api.ErrForm},
	{"take !", api.ErrName},
	{"take ~", api.ErrName},

	// the first word
	{"what", api.ErrKind},
	{"What is 1", api.ErrKind},
	{"Take u", api.ErrKind},
	{"takes u", api.ErrKind},
	{"tak u", api.ErrKind},
	{"pianola", api.ErrKind},
	{"end 0", api.ErrKind},
	{"!", api.ErrKind},
	{"~", api.ErrKind},

	// the number of words
	{"cur", api.ErrForm},
	{"cur x", api.ErrForm},
	{"cur x 1/1 1", api.ErrForm},
	{"cur x 1 1", api.ErrForm},
	{"take", api.ErrForm},
	{"take t t", api.ErrForm},
	{"part t cy", api.ErrForm},
	{"part t cy 1 1", api.ErrForm},
	{"edition f t 7", api.ErrForm},
	{"edition f t 7 mark 1", api.ErrForm},
	{"sell e", api.ErrForm},
	{"sell e 1 1", api.ErrForm},
	{"mark", api.ErrForm},
	{"mark m m", api.ErrForm},
	{"back", api.ErrForm},
	{"back m m", api.ErrForm},

	// the form of a number
	{"sell e 0", api.ErrRange},
	{"sell e -1", api.ErrRange},
	{"sell e -10", api.ErrRange},
	{"sell e -0", api.ErrForm},
	{"sell e 00", api.ErrForm},
	{"sell e 01", api.ErrForm},
	{"sell e -01", api.ErrForm},
	{"sell e -", api.ErrForm},
	{"sell e --1", api.ErrForm},
	{"sell e +1", api.ErrForm},
	{"sell e 1-", api.ErrForm},
	{"sell e 1x", api.ErrForm},
	{"sell e x", api.ErrForm},
	{"sell e 1_0", api.ErrForm},
	{"sell e 0x1", api.ErrForm},
	{"sell e 1.0", api.ErrForm},
	{"sell e 1e3", api.ErrForm},
	{"sell e 1/1", api.ErrForm},
	{"sell e /", api.ErrForm},
	{"sell e 1:", api.ErrForm},
	{"part t cy 1/1", api.ErrForm},
	{"edition f t 1/1 mark", api.ErrForm},
	{"edition f t mark 7", api.ErrForm},

	// the form of n/d
	{"cur x 1", api.ErrForm},
	{"cur x /", api.ErrForm},
	{"cur x 1/", api.ErrForm},
	{"cur x /1", api.ErrForm},
	{"cur x 1//1", api.ErrForm},
	{"cur x 1/1/1", api.ErrForm},
	{"cur x /1/1", api.ErrForm},
	{"cur x 1/1/", api.ErrForm},
	{"cur x 01/1", api.ErrForm},
	{"cur x 1/01", api.ErrForm},
	{"cur x 1/-0", api.ErrForm},
	{"cur x x/1", api.ErrForm},
	{"cur x 1/x", api.ErrForm},
	{"cur x 1:1", api.ErrForm},

	// names, after all forms
	{"cur X 1/1", api.ErrName},
	{"cur X 1/01", api.ErrForm},
	{"cur abcdefghi 1/1", api.ErrName},
	{"take 1", api.ErrName},
	{"take abcdefghi", api.ErrName},
	{"take a-b", api.ErrName},
	{"part T cy 1", api.ErrName},
	{"part t Cy 1", api.ErrName},
	{"part T cy x", api.ErrForm},
	{"edition F t 7 mark", api.ErrName},
	{"edition f T 7 mark", api.ErrName},
	{"edition f t 7 7", api.ErrName},
	{"edition F t x mark", api.ErrForm},
	{"sell E 1", api.ErrName},
	{"sell E x", api.ErrForm},
	{"mark M", api.ErrName},
	{"back M", api.ErrName},

	// numbers out of range, after all names
	{"cur x 0/1", api.ErrRange},
	{"cur x 1/0", api.ErrRange},
	{"cur x 1001/1", api.ErrRange},
	{"cur x 1/1001", api.ErrRange},
	{"cur x -1/1", api.ErrRange},
	{"cur x 1/-1", api.ErrRange},
	{"cur x -1/-1", api.ErrRange},
	{"cur X 0/1", api.ErrName},
	{"part t cy 0", api.ErrRange},
	{"part t cy 1001", api.ErrRange},
	{"part t Cy 0", api.ErrName},
	{"edition f t 0 mark", api.ErrRange},
	{"edition f t 100001 mark", api.ErrRange},
	{"edition f t 0 Mark", api.ErrName},
	{"sell e 1000001", api.ErrRange},
	{"sell E 0", api.ErrName},
	{"sell e 9223372036854775807", api.ErrRange},
	{"sell e 9223372036854775808", api.ErrRange},
	{"sell e 18446744073709551617", api.ErrRange},
	{"sell e -18446744073709551615", api.ErrRange},

	// what there is not, after all numbers
	{"part u cy 1", api.ErrNone},
	{"part u cy 0", api.ErrRange},
	{"part e cy 1", api.ErrNone},
	{"part u ana 1", api.ErrNone},
	{"edition f u 7 mark", api.ErrNone},
	{"edition f t 7 u", api.ErrNone},
	{"edition e u 7 mark", api.ErrNone},
	{"edition e t 7 t", api.ErrNone},
	{"edition f u 0 mark", api.ErrRange},
	{"sell t 1", api.ErrNone},
	{"sell f 1000000", api.ErrNone},
	{"sell f 0", api.ErrRange},
	{"back m", api.ErrNone},
	{"back mark", api.ErrNone},

	// what there is already
	{"cur mark 3/2", api.ErrTwice},
	{"cur mark 1/1", api.ErrTwice},
	{"cur mark 0/1", api.ErrRange},
	{"take t", api.ErrTwice},
	{"part t ana 333", api.ErrTwice},
	{"part t ben 1", api.ErrTwice},
	{"part t ana 1000", api.ErrTwice},
	{"part t ana 0", api.ErrRange},
	{"edition e t 7 mark", api.ErrTwice},

	// sums
	{"part t cy 417", api.OK},
	{"part t cy 418", api.ErrSum},
	{"part t cy 1000", api.ErrSum},
	{"sell e 999996", api.ErrOver},
	{"sell e 1000000", api.ErrOver},
}

// P14.1: what a line is, and the errors of lines, in their order; with an error the book is as before (R2).
func TestDo(t *testing.T) {
	for _, c := range texts {
		b := bookOf(t, linesS()...)
		if e := b.Do(c.line); e != c.want {
			t.Errorf("Do %q: %d, want %d", c.line, e, c.want)
		}
		want := linesS()
		if c.want == api.OK {
			want = plus(want, c.line)
		}
		if !slices.Equal(b.Lines(), want) {
			t.Errorf("Lines after %q: %q, want %q", c.line, b.Lines(), want)
		}
	}
}

// parts returns a take with so many parts of a thousandth.
func parts(number int) []string { return plus([]string{"take t"}, each(number, "part t ", " 1")...) }

// editions returns a take and a currency with so many editions.
func editions(number int) []string {
	return plus([]string{"take t", "take u", "cur c 1/1"}, each(number, "edition ", " t 1 c")...)
}

// sales returns S, and so many lines more.
func sales(number int) []string {
	return plus(linesS(), slices.Repeat([]string{"sell e 1"}, number)...)
}

// full are books that are full of something, and a line with its error.
var full = []struct {
	name  string
	lines []string
	line  string
	want  api.Errno
}{
	{"the last currency", each(5, "cur ", " 1/1"), "cur a 1/1", api.OK},
	{"a currency too many", each(6, "cur ", " 1/1"), "cur a 1/1", api.ErrMany},
	{"a currency too many, twice", each(6, "cur ", " 1/1"), "cur x 1/1", api.ErrTwice},
	{"no currency less for a take", each(6, "cur ", " 1/1"), "take a", api.OK},
	{"the last take", each(9, "take ", ""), "take a", api.OK},
	{"a take too many", each(10, "take ", ""), "take a", api.ErrMany},
	{"a take too many, twice", each(10, "take ", ""), "take x", api.ErrTwice},
	{"the last part", parts(7), "part t a 1", api.OK},
	{"a part too many", parts(8), "part t a 1", api.ErrMany},
	{"a part too many, twice", parts(8), "part t x 993", api.ErrTwice},
	{"a part too many, all of the rest", parts(8), "part t a 992", api.ErrMany},
	{"a part too many and too much", parts(8), "part t a 993", api.ErrSum},
	{"a part of another take", plus(parts(8), "take u"), "part u a 1000", api.OK},
	{"a part of the same artist in another take", plus(parts(8), "take u"), "part u x 1", api.OK},
	{"the last edition", editions(15), "edition a t 1 c", api.OK},
	{"an edition too many", editions(16), "edition a t 1 c", api.ErrMany},
	{"an edition too many of another take", editions(16), "edition a u 1 c", api.ErrMany},
	{"an edition too many, twice", editions(16), "edition x t 1 c", api.ErrTwice},
	{"an edition too many, of nothing", editions(16), "edition a a 1 c", api.ErrNone},
	{"the last mark", each(7, "mark ", ""), "mark a", api.OK},
	{"a mark too many", each(8, "mark ", ""), "mark a", api.ErrMany},
	{"a mark too many, twice", each(8, "mark ", ""), "mark x", api.ErrTwice},
	{"back with all marks", each(8, "mark ", ""), "back xc", api.OK},
	{"the last copy", plus(editions(1), "sell x 1", "sell x 999998"), "sell x 1", api.OK},
	{"a copy too many", plus(editions(1), "sell x 1", "sell x 999999"), "sell x 1", api.ErrOver},
	{"all copies at once", plus(editions(2), "sell x 1000000"), "sell xb 1000000", api.OK},
	{"the last line", sales(293), "sell e 1", api.OK},
	{"a line too many", sales(294), "sell e 1", api.ErrFull},
	{"a line too many: a currency", sales(294), "cur x 1/1", api.ErrFull},
	{"a line too many: a take", sales(294), "take u", api.ErrFull},
	{"a line too many: a part", sales(294), "part t cy 1", api.ErrFull},
	{"a line too many: an edition", sales(294), "edition f t 1 mark", api.ErrFull},
	{"a line too many: a mark", sales(294), "mark m", api.ErrFull},
	{"a line too many, of an unknown kind", sales(294), "what", api.ErrKind},
	{"a line too many, without its edition", sales(294), "sell f 1", api.ErrNone},
	{"a line too many, twice", sales(294), "take t", api.ErrTwice},
	{"a line too many, too large a part", sales(294), "part t cy 418", api.ErrSum},
	{"a line too many, too many copies", sales(294), "sell e 999999", api.ErrOver},
	{"a line too many, without its mark", sales(294), "back m", api.ErrNone},
	{"a line too many, too many takes", plus(each(10, "take ", ""), plus([]string{"cur c 1/1", "edition e x 1 c"}, slices.Repeat([]string{"sell e 1"}, 288)...)...), "take a", api.ErrMany},
}

// P14.1: the limits of a book, and which of several errors comes first.
func TestFull(t *testing.T) {
	for _, c := range full {
		b := bookOf(t, c.lines...)
		if e := b.Do(c.line); e != c.want {
			t.Errorf("%s: %d, want %d", c.name, e, c.want)
		}
		if c.want != api.OK && !slices.Equal(b.Lines(), c.lines) {
			t.Errorf("%s: %q", c.name, b.Lines())
		}
	}
}

// P14.1: a book with as many lines as it can keep goes back, and has room again.
func TestFullAndBack(t *testing.T) {
	b := bookOf(t, plus(plus(linesS(), "mark m"), slices.Repeat([]string{"sell e 1"}, 293)...)...)
	for i, c := range []struct {
		line  string
		want  api.Errno
		lines int
	}{{"sell e 1", api.ErrFull, 300}, {"back m", api.OK, 7}, {"sell e 1", api.OK, 8}} {
		if e := b.Do(c.line); e != c.want || len(b.Lines()) != c.lines {
			t.Errorf("line %d: %d, %d lines, want %d, %d", i, e, len(b.Lines()), c.want, c.lines)
		}
	}
}

// P14.1: going back removes all lines after the mark and nothing before it, and with them all that they told.
func TestBack(t *testing.T) {
	b := bookOf(t, plus(linesS(), "mark m", "sell e 1", "mark n", "cur x 1/1", "take u", "part u ana 1000", "part t cy 417", "edition f u 1 x", "sell f 9", "mark o")...)
	for i, c := range []struct {
		line         string
		want         api.Errno
		lines, house int
	}{
		{"back p", api.ErrNone, 16, 2},
		{"back o", api.OK, 16, 2},
		{"back n", api.OK, 9, 28},
		{"back n", api.OK, 9, 28},
		{"back o", api.ErrNone, 9, 28},
		{"mark n", api.ErrTwice, 9, 28},
		{"sell f 1", api.ErrNone, 9, 28},
		{"part u ana 1", api.ErrNone, 9, 28},
		{"edition f t 1 x", api.ErrNone, 9, 28},
		{"sell e 999995", api.ErrOver, 9, 28},
		{"sell e 999994", api.OK, 10, 4378500},
		{"back n", api.OK, 9, 28},
		{"take u", api.OK, 10, 28},
		{"part t cy 417", api.OK, 11, 2},
		{"back m", api.OK, 7, 22},
		{"back n", api.ErrNone, 7, 22},
		{"mark n", api.OK, 8, 22},
		{"sell e 1", api.OK, 9, 28},
		{"back n", api.OK, 8, 22},
	} {
		if e := b.Do(c.line); e != c.want || len(b.Lines()) != c.lines || b.House() != c.house {
			t.Errorf("step %d, %q: %d, %d lines, house %d, want %d, %d, %d", i, c.line, e, len(b.Lines()), b.House(), c.want, c.lines, c.house)
		}
	}
	if want := plus(linesS(), "mark m", "mark n"); !slices.Equal(b.Lines(), want) {
		t.Errorf("Lines: %q, want %q", b.Lines(), want)
	}
}

// runs are texts, and what Run returns for a new book.
var runs = []struct {
	name, text string
	done       int
	want       api.Errno
}{
	{"nothing", "", 0, api.OK},
	{"S", strings.Join(linesS(), "\n") + "\n", 6, api.OK},
	{"one line", "take t\n", 1, api.OK},
	{"no line feed", "take t", 0, api.ErrTorn},
	{"no line feed at the end", "take t\ntake u", 0, api.ErrTorn},
	{"no line feed, and a line with an error", "what\ntake u", 0, api.ErrTorn},
	{"something after the line feed", "take t\n ", 0, api.ErrTorn},
	{"an empty line", "\n", 0, api.ErrForm},
	{"an empty line at the end", "take t\n\n", 1, api.ErrForm},
	{"an empty line in the middle", "take t\n\ntake u\n", 1, api.ErrForm},
	{"other line ends", "take t\r\n", 0, api.ErrForm},
	{"an error", "take t\ntake u\nsell e 1\ntake v\nwhat\n", 2, api.ErrNone},
	{"back", "take t\nmark m\ntake u\nback m\ntake u\n", 5, api.OK},
	{"a long line", "take t\n" + strings.Repeat("x", 61) + "\n", 1, api.ErrLong},
	{"the longest text", lines("take t", "mark m") + strings.Repeat("back m\n", 2855) + "\n", 2857, api.ErrForm},
	{"too long a text", strings.Repeat("take t\n", 2858), 0, api.ErrLong},
	{"too long a text without line feeds", strings.Repeat("x", 20001), 0, api.ErrLong},
	{"a long text without line feeds", strings.Repeat("x", 20000), 0, api.ErrTorn},
	{"more lines than a book keeps", "take t\ncur c 1/1\nedition e t 1 c\n" + strings.Repeat("sell e 1\n", 300), 300, api.ErrFull},
}

// P14.2: a text is done up to its first line with an error, and what is done stays.
func TestRun(t *testing.T) {
	for _, c := range runs {
		b := finisher.New()
		if done, e := b.Run(c.text); done != c.done || e != c.want {
			t.Errorf("%s: %d, %d, want %d, %d", c.name, done, e, c.done, c.want)
		}
		var want []string
		for _, line := range strings.Split(c.text, "\n")[:c.done] {
			want, _ = tell(want, line)
		}
		if !slices.Equal(b.Lines(), want) {
			t.Errorf("%s: %q, want %q", c.name, b.Lines(), want)
		}
	}
}

// P14.2: a text is done after what was told before.
func TestRunMore(t *testing.T) {
	b := bookOf(t, linesS()...)
	if done, e := b.Run("sell e 1\ntake t\nsell e 1\n"); done != 1 || e != api.ErrTwice || b.House() != 28 {
		t.Errorf("%d, %d, house %d", done, e, b.House())
	}
	if done, e := b.Run("sell e 1"); done != 0 || e != api.ErrTorn || b.House() != 28 {
		t.Errorf("%d, %d, house %d", done, e, b.House())
	}
}

// shares are lines after which take t has received something.
var shares = []struct {
	name     string
	lines    []string
	received int
	accounts []finisher.Account
	house    int
}{
	{"S", linesS(), 52, accounts("ana", 17, "ben", 13), 22},
	{"a copy more", plus(linesS(), "sell e 1"), 63, accounts("ana", 20, "ben", 15), 28},
	{"no copy", linesS()[:5], 0, accounts("ana", 0, "ben", 0), 0},
	{"no part", plus(linesS()[:2], linesS()[4:]...), 52, nil, 52},
	{"no edition", linesS()[:3], 0, accounts("ana", 0), 0},
	{"names in their order", plus(linesS(), "part t an 10", "part t c 20", "part t abc 30"), 52, accounts("abc", 1, "an", 0, "ana", 17, "ben", 13, "c", 1), 20},
	{"two editions, each rounded down", plus(linesS(), "edition f t 7 mark", "sell f 3", "sell f 2"), 104, accounts("ana", 34, "ben", 26), 44},
	{"two currencies, each rounded down", plus(linesS(), "cur x 11/10", "edition f t 7 x", "sell f 6"), 98, accounts("ana", 32, "ben", 24), 42},
	{"two takes, each rounded down", plus(linesS(), "take u", "part u ana 333", "edition f u 7 mark", "sell f 5"), 52, accounts("ana", 34, "ben", 13), 57},
	{"another take alone", plus(linesS(), "take u", "part u cy 1000"), 52, accounts("ana", 17, "ben", 13, "cy", 0), 22},
	{"all of it", []string{"take t", "part t a 1000", "cur c 1/1", "edition e t 9 c", "sell e 1"}, 9, accounts("a", 9), 0},
	{"halves", []string{"take t", "part t b 500", "part t a 500", "cur c 1/1", "edition e t 9 c", "sell e 1"}, 9, accounts("a", 4, "b", 4), 1},
	{"less than a cent", []string{"take t", "part t a 1000", "cur c 1/1000", "edition e t 1 c", "sell e 999"}, 0, accounts("a", 0), 0},
	{"less than a cent in each edition", []string{"take t", "part t a 1000", "cur c 1/2", "edition e t 1 c", "sell e 1", "edition f t 1 c", "sell f 1"}, 0, accounts("a", 0), 0},
	{"lines of the same copies", []string{"take t", "part t a 1000", "cur c 1/2", "edition e t 1 c", "sell e 1", "sell e 1"}, 1, accounts("a", 1), 0},
	{"a part of less than a cent", []string{"take t", "part t a 999", "cur c 1/1000", "edition e t 1 c", "sell e 1000"}, 1, accounts("a", 0), 1},
	{"the most of an edition", []string{"take t", "part t a 999", "part t b 1", "cur c 1000/1", "edition e t 100000 c", "sell e 1000000"}, 100000000000000, accounts("a", 99900000000000, "b", 100000000000), 0},
	{"the most of a take", most("part t a 1000"), 1600000000000000, accounts("a", 1600000000000000), 0},
	{"the most of a take without parts", most(), 1600000000000000, nil, 1600000000000000},
}

// most returns lines by which a take receives the most, with some more.
func most(more ...string) []string {
	lines := []string{"take t", "cur c 1000/1"}
	lines = plus(lines, each(16, "edition ", " t 100000 c")...)
	return plus(plus(lines, each(16, "sell ", " 1000000")...), more...)
}

// P14.3: accounts, what the house keeps, and what a take has received, with each rounding.
func TestAccounts(t *testing.T) {
	for _, c := range shares {
		b := bookOf(t, c.lines...)
		if cents, e := b.Received("t"); cents != c.received || e != api.OK {
			t.Errorf("Received, %s: %d, %d, want %d", c.name, cents, e, c.received)
		}
		if !slices.Equal(b.Accounts(), c.accounts) || b.House() != c.house {
			t.Errorf("%s: %v, house %d, want %v, %d", c.name, b.Accounts(), b.House(), c.accounts, c.house)
		}
		if !slices.Equal(b.Lines(), c.lines) {
			t.Errorf("Lines, %s: %q, want %q", c.name, b.Lines(), c.lines)
		}
	}
}

// P14.3: Received takes names of takes alone.
func TestReceived(t *testing.T) {
	b := bookOf(t, plus(linesS(), "take abcdefgh")...)
	for take, want := range map[string]api.Errno{"t": api.OK, "abcdefgh": api.OK, "u": api.ErrNone, "e": api.ErrNone, "ana": api.ErrNone, "mark": api.ErrNone, "tt": api.ErrNone, "": api.ErrName, "T": api.ErrName, "t ": api.ErrName, "t ana": api.ErrName, "abcdefghi": api.ErrName, "\xff": api.ErrName, strings.Repeat("t", 30000): api.ErrName} {
		if _, e := b.Received(take); e != want {
			t.Errorf("Received of %q: %d, want %d", take, e, want)
		}
	}
}

// lines returns a text with a line feed after each line.
func lines(l ...string) string { return strings.Join(l, "\n") + "\n" }

// P14.4: the file of a book has currencies, takes with their parts, and editions with their sold copies, in the order of their names.
func TestFile(t *testing.T) {
	told := []string{"take u", "mark m", "cur yen 2/6", "take t", "part u cy 5", "part t ben 250", "part t ana 333", "cur mark 3/2", "part u ana 1", "edition f u 9 yen", "edition e t 7 mark", "sell e 2", "sell f 4", "sell e 3", "edition ef t 1 yen", "take tt", "cur ye 1/1", "edition d t 1 yen", "mark n", "sell f 1", "back n"}
	want := lines("pianola", "cur mark 3/2", "cur ye 1/1", "cur yen 2/6", "take t", "part t ana 333", "part t ben 250", "take tt", "take u", "part u ana 1", "part u cy 5", "edition d t 1 yen", "edition e t 7 mark", "sell e 5", "edition ef t 1 yen", "edition f u 9 yen", "sell f 4", "end 16")
	b := bookOf(t, told...)
	if got := b.File(); got != want {
		t.Errorf("File: %q, want %q", got, want)
	}
	again, e := finisher.Read(want)
	if e != api.OK || again.File() != want || !slices.Equal(again.Accounts(), b.Accounts()) || again.House() != b.House() {
		t.Fatalf("Read: %d", e)
	}
	if between := strings.Split(want, "\n")[1:17]; !slices.Equal(again.Lines(), between) {
		t.Errorf("Lines: %q, want %q", again.Lines(), between)
	}
	if again.Do("back m") != api.ErrNone || again.Do("mark m") != api.OK || again.Do("sell e 999996") != api.ErrOver || again.Do("sell e 999995") != api.OK {
		t.Errorf("a book that was read: %q", again.Lines())
	}
}

// files are texts, with the errors of Read.
var files = []struct {
	name, file string
	want       api.Errno
}{
	{"a new book", lines("pianola", "end 0"), api.OK},
	{"one line", lines("pianola", "take t", "end 1"), api.OK},
	{"S", lines(plus(plus([]string{"pianola"}, linesS()...), "end 6")...), api.OK},
	{"the longest file", longest(), api.OK},
	{"nothing", "", api.ErrTorn},
	{"no line feed", "pianola", api.ErrTorn},
	{"no line feed at the end", "pianola\nend 0", api.ErrTorn},
	{"no line feed after another one", "pianola\nend 0\nend 0", api.ErrTorn},
	{"too long", strings.Repeat("\n", 20001), api.ErrLong},
	{"too long, without line feeds", strings.Repeat("x", 20001), api.ErrLong},
	{"as long as a text", strings.Repeat("x", 19999) + "\n", api.ErrForm},
	{"a line feed", "\n", api.ErrForm},
	{"just the first line", lines("pianola"), api.ErrForm},
	{"just the last line", lines("end 0"), api.ErrForm},
	{"one line for both", lines("end -1"), api.ErrForm},
	{"another first line", lines("Pianola", "end 0"), api.ErrForm},
	{"a blank after the first line", lines("pianola ", "end 0"), api.ErrForm},
	{"a blank after the last line", lines("pianola", "end 0 "), api.ErrForm},
	{"a line before the first one", lines("", "pianola", "end 0"), api.ErrForm},
	{"a line after the last one", lines("pianola", "end 0", ""), api.ErrForm},
	{"no last line", lines("pianola", "take t"), api.ErrForm},
	{"no number", lines("pianola", "end"), api.ErrForm},
	{"too small a number", lines("pianola", "take t", "end 0"), api.ErrForm},
	{"too great a number", lines("pianola", "take t", "end 2"), api.ErrForm},
	{"all lines counted", lines("pianola", "take t", "end 3"), api.ErrForm},
	{"another form of the number", lines("pianola", "end 00"), api.ErrForm},
	{"a number with a sign", lines("pianola", "end -0"), api.ErrForm},
	{"other line ends", "pianola\r\nend 0\r\n", api.ErrForm},
	{"a wrong last line, and a line with an error", lines("pianola", "what", "end 2"), api.ErrForm},
	{"a line with an error", lines("pianola", "what", "end 1"), api.ErrKind},
	{"an empty line", lines("pianola", "", "end 1"), api.ErrForm},
	{"too long a line", lines("pianola", strings.Repeat("x", 61), "end 1"), api.ErrLong},
	{"the first line with an error decides", lines("pianola", "take T", "what", "end 2"), api.ErrName},
	{"an error after a wrong order", lines("pianola", "take u", "take t", "take t", "end 3"), api.ErrTwice},
	{"a part of no take", lines("pianola", "part t a 1", "take t", "end 2"), api.ErrNone},
	{"too many lines", lines(plus([]string{"pianola", "cur c 1/1", "take t", "edition e t 1 c"}, plus(slices.Repeat([]string{"sell e 1"}, 298), "end 301")...)...), api.ErrFull},
	{"takes in another order", lines("pianola", "take u", "take t", "end 2"), api.ErrOrder},
	{"currencies in another order", lines("pianola", "cur b 1/1", "cur a 1/1", "end 2"), api.ErrOrder},
	{"a currency after a take", lines("pianola", "take t", "cur a 1/1", "end 2"), api.ErrOrder},
	{"parts in another order", lines("pianola", "take t", "part t b 1", "part t a 1", "end 3"), api.ErrOrder},
	{"a part after the next take", lines("pianola", "take t", "take u", "part t b 1", "end 3"), api.ErrOrder},
	{"editions in another order", lines("pianola", "cur c 1/1", "take t", "edition f t 1 c", "edition e t 1 c", "end 4"), api.ErrOrder},
	{"copies in two lines", lines("pianola", "cur c 1/1", "take t", "edition e t 1 c", "sell e 1", "sell e 1", "end 5"), api.ErrOrder},
	{"copies after the next edition", lines("pianola", "cur c 1/1", "take t", "edition e t 1 c", "edition f t 1 c", "sell e 1", "end 5"), api.ErrOrder},
	{"a mark", lines("pianola", "mark m", "end 1"), api.ErrOrder},
	{"a mark, and back", lines("pianola", "mark m", "back m", "end 2"), api.ErrOrder},
	{"the first line again", lines("pianola", "pianola", "end 1"), api.ErrKind},
	{"the last line again", lines("pianola", "end 0", "end 1"), api.ErrKind},
}

// longest returns a file with all that a book can have, and the longest words.
func longest() string {
	l := []string{"pianola"}
	for i := range 6 {
		l = append(l, fmt.Sprintf("cur currenc%c 1000/1000", 'a'+i))
	}
	for i := range 10 {
		l = append(l, fmt.Sprintf("take takinga%c", 'a'+i))
		for j := range 8 {
			l = append(l, fmt.Sprintf("part takinga%c artista%c 125", 'a'+i, 'a'+j))
		}
	}
	for i := range 16 {
		l = append(l, fmt.Sprintf("edition edition%c takingaa 100000 currenca", 'a'+i), fmt.Sprintf("sell edition%c 1000000", 'a'+i))
	}
	return lines(append(l, "end 128")...)
}

// P14.4: Read returns books of files, and the errors of other texts, in their order.
func TestRead(t *testing.T) {
	for _, c := range files {
		b, e := finisher.Read(c.file)
		if e != c.want || (b == nil) != (e != api.OK) {
			t.Errorf("%s: %v, %d, want %d", c.name, b, e, c.want)
			continue
		}
		if e == api.OK && (b.File() != c.file || lines(plus(plus([]string{"pianola"}, b.Lines()...), fmt.Sprint("end ", len(b.Lines())))...) != c.file) {
			t.Errorf("%s: %q, %q", c.name, b.File(), b.Lines())
		}
	}
}

// note returns a note.
func note(at, key, long int) edit.Note { return edit.Note{At: at, Key: key, Long: long} }

// bytes returns a string of bytes.
func bytes(l ...byte) string { return string(l) }

// mostNotes returns as many notes as a roll has.
func mostNotes() edit.Roll {
	var r edit.Roll
	for key := range 30 {
		r = append(r, note(1000000, key, 1000))
	}
	return r
}

// mostBytes returns the bytes of these notes.
func mostBytes() string {
	s := bytes(30, 192, 132, 61, 0, 232, 7)
	for key := byte(1); key < 30; key++ {
		s += bytes(0, key, 232, 7)
	}
	return s + bytes(239)
}

// packs are rolls with their bytes.
var packs = []struct {
	name string
	roll edit.Roll
	want string
}{
	{"no notes", nil, bytes(0, 0)},
	{"the example", edit.Roll{note(300, 40, 5)}, bytes(1, 172, 2, 40, 5, 220)},
	{"the least numbers", edit.Roll{note(0, 0, 1)}, bytes(1, 0, 0, 1, 2)},
	{"the greatest numbers", edit.Roll{note(1000000, 87, 1000)}, bytes(1, 192, 132, 61, 87, 232, 7, 210)},
	{"one byte and two bytes", edit.Roll{note(127, 1, 127), note(255, 2, 128)}, bytes(2, 127, 1, 127, 128, 1, 2, 128, 1, 15)},
	{"two bytes and three bytes", edit.Roll{note(16383, 1, 1), note(32767, 1, 1)}, bytes(2, 255, 127, 1, 1, 128, 128, 1, 1, 1, 143)},
	{"the same At", edit.Roll{note(5, 5, 5), note(5, 6, 5)}, bytes(2, 5, 5, 5, 0, 6, 5, 28)},
	{"the sum is 250", edit.Roll{note(242, 1, 5)}, bytes(1, 242, 1, 1, 5, 250)},
	{"the sum is 251", edit.Roll{note(242, 1, 6)}, bytes(1, 242, 1, 1, 6, 0)},
	{"the most notes", mostNotes(), mostBytes()},
}

// P14.5: packed rolls, byte by byte, and back.
func TestPack(t *testing.T) {
	for _, c := range packs {
		if s, e := finisher.Pack(c.roll); s != c.want || e != api.OK {
			t.Errorf("Pack of %s: %v, %d, want %v", c.name, []byte(s), e, []byte(c.want))
		}
		if r, e := finisher.Unpack(c.want); !slices.Equal(r, c.roll) || e != api.OK {
			t.Errorf("Unpack of %s: %v, %d, want %v", c.name, r, e, c.roll)
		}
	}
}

// P14.5: Pack returns the error of edit.Check.
func TestPackErrors(t *testing.T) {
	for _, r := range []edit.Roll{make(edit.Roll, 31), {note(-1, 0, 1)}, {note(1000001, 0, 1)}, {note(0, 88, 1)}, {note(0, 0, 0)}, {note(0, 0, 1001)}, {note(5, 5, 5), note(5, 5, 6)}, {note(5, 5, 5), note(4, 5, 6)}, {note(math.MaxInt, math.MinInt, math.MaxInt)}, {note(math.MinInt, 0, 1), note(math.MaxInt, 0, 1)}} {
		if s, e := finisher.Pack(r); s != "" || e == api.OK || e != edit.Check(r) {
			t.Errorf("Pack of %v: %q, %d, want %d", r, s, e, edit.Check(r))
		}
	}
}

// strips are bytes, with the errors of Unpack.
var strips = []struct {
	name  string
	bytes string
	want  api.Errno
}{
	{"nothing", "", api.ErrTorn},
	{"no last byte", bytes(0), api.ErrTorn},
	{"within the number of notes", bytes(128), api.ErrTorn},
	{"within the number of notes, after three bytes", bytes(255, 255, 255), api.ErrTorn},
	{"before the first note", bytes(1), api.ErrTorn},
	{"before as many notes as there can be", bytes(30), api.ErrTorn},
	{"within At", bytes(1, 129), api.ErrTorn},
	{"before Key", bytes(1, 5), api.ErrTorn},
	{"before Long", bytes(1, 5, 5), api.ErrTorn},
	{"within Long", bytes(1, 5, 5, 133), api.ErrTorn},
	{"before the last byte", bytes(1, 5, 5, 5), api.ErrTorn},
	{"before the second note", bytes(2, 5, 5, 5), api.ErrTorn},
	{"before the last byte, and a key out of range", bytes(1, 5, 88, 5), api.ErrTorn},
	{"before the second note, and a key out of range", bytes(2, 5, 88, 5), api.ErrTorn},
	{"a byte more than needed", bytes(128, 0, 0), api.ErrForm},
	{"a byte more than needed at the end", bytes(128, 0), api.ErrForm},
	{"two bytes more than needed", bytes(128, 128, 0), api.ErrForm},
	{"three bytes more than needed", bytes(128, 128, 128, 0), api.ErrForm},
	{"a byte more than needed for the number 1", bytes(129, 0, 5, 5, 5, 16), api.ErrForm},
	{"a byte more than needed in At", bytes(1, 133, 0, 5, 5, 16), api.ErrForm},
	{"a byte more than needed in Key", bytes(1, 5, 133, 0, 5, 16), api.ErrForm},
	{"a byte more than needed in Long", bytes(1, 5, 5, 133, 0, 16), api.ErrForm},
	{"four bytes", bytes(128, 128, 128, 128), api.ErrForm},
	{"four bytes, and more", bytes(255, 255, 255, 255, 1), api.ErrForm},
	{"four bytes, and what is not needed", bytes(128, 128, 128, 128, 0), api.ErrForm},
	{"four bytes in Long, after a key out of range", bytes(1, 5, 99, 128, 128, 128, 128), api.ErrForm},
	{"the greatest number", bytes(255, 255, 255, 127), api.ErrMany},
	{"the least number of four bytes", bytes(128, 128, 128, 1), api.ErrMany},
	{"too many notes", bytes(31), api.ErrMany},
	{"too many notes, with the sum", bytes(31, 31), api.ErrMany},
	{"a key out of range", bytes(1, 5, 88, 5, 99), api.ErrRange},
	{"a key out of range, a wrong sum, and a byte more", bytes(1, 5, 88, 5, 0, 0), api.ErrRange},
	{"the greatest key", bytes(1, 5, 255, 255, 255, 127, 5, 145), api.ErrRange},
	{"not long", bytes(1, 5, 5, 0, 11), api.ErrRange},
	{"too long", bytes(1, 5, 5, 233, 7, 0), api.ErrRange},
	{"too late", bytes(1, 193, 132, 61, 0, 1, 0), api.ErrRange},
	{"too late together", bytes(2, 192, 132, 61, 0, 1, 1, 0, 1, 0), api.ErrRange},
	{"the greatest At", bytes(1, 255, 255, 255, 127, 0, 1, 0), api.ErrRange},
	{"a place twice", bytes(2, 5, 5, 5, 0, 5, 5, 27), api.ErrTwice},
	{"places in another order", bytes(2, 5, 5, 5, 0, 4, 5, 26), api.ErrOrder},
	{"another sum", bytes(0, 1), api.ErrSum},
	{"another sum, and a byte more", bytes(0, 1, 0), api.ErrSum},
	{"the sum not modulo 251", bytes(1, 242, 1, 1, 6, 251), api.ErrSum},
	{"251 more than the sum", bytes(0, 251), api.ErrSum},
	{"the sum with itself", bytes(1, 5, 5, 5, 32), api.ErrSum},
	{"a byte more", bytes(0, 0, 0), api.ErrLong},
	{"many bytes more", bytes(0, 0) + strings.Repeat("x", 30000), api.ErrLong},
	{"another roll after it", bytes(1, 5, 5, 5, 16, 1, 5, 5, 5, 16), api.ErrLong},
	{"many bytes", strings.Repeat("\xff", 30000), api.ErrForm},
	{"many notes without end", bytes(30) + strings.Repeat("\x01", 89), api.ErrTorn},
}

// P14.5: Unpack returns the first error from the beginning on, and those of the roll, the sum and the length after all notes.
func TestUnpackErrors(t *testing.T) {
	for _, c := range strips {
		if r, e := finisher.Unpack(c.bytes); e != c.want || len(r) != 0 {
			t.Errorf("%s: %v, %d, want %d", c.name, r, e, c.want)
		}
	}
}

// P14.6: books that are nil, that no function returned, or that are copies of others.
func TestInvalid(t *testing.T) {
	valid := bookOf(t, linesS()...)
	copied := *valid
	for name, b := range map[string]*finisher.Book{"nil": nil, "no book": {}, "new": new(finisher.Book), "a copy": &copied} {
		for _, line := range []string{"take u", "", "what", strings.Repeat("x", 61)} {
			if e := b.Do(line); e != api.ErrNil {
				t.Errorf("Do of %s: %d", name, e)
			}
		}
		for _, text := range []string{"take u\n", "", "take u", strings.Repeat("x", 20001)} {
			if done, e := b.Run(text); done != 0 || e != api.ErrNil {
				t.Errorf("Run of %s: %d, %d", name, done, e)
			}
		}
		for _, take := range []string{"t", "u", "", "T"} {
			if cents, e := b.Received(take); cents != 0 || e != api.ErrNil {
				t.Errorf("Received of %s: %d, %d", name, cents, e)
			}
		}
		if len(b.Lines()) != 0 || len(b.Accounts()) != 0 || b.House() != 0 || b.File() != "" {
			t.Errorf("%s: %q, %v, %d, %q", name, b.Lines(), b.Accounts(), b.House(), b.File())
		}
	}
	if !slices.Equal(valid.Lines(), linesS()) || valid.House() != 22 {
		t.Errorf("after that: %q, house %d", valid.Lines(), valid.House())
	}
}
