package finisher_test

import (
	"fmt"
	"math"
	"math/big"
	"math/rand"
	"reflect"
	"slices"
	"strings"
	"testing"

	"pianola/api"
	"pianola/edit"
	"pianola/finisher"
)

// must fails a test if there is an error.
func must(t *testing.T, e api.Errno) {
	t.Helper()
	if e != api.OK {
		t.Fatalf("error %d", e)
	}
}

// received returns what a take has received.
func received(t *testing.T, b *finisher.Book, take string) int {
	t.Helper()
	cents, e := b.Received(take)
	must(t, e)
	return cents
}

// answers returns all that a book answers, but for the errors of lines.
func answers(b *finisher.Book) []any {
	all := []any{b.Lines(), b.Accounts(), b.House(), b.File()}
	for _, take := range []string{"b", "ba", "abcdefgh", "a", "z", "cur", "mark", "take", "end", "pianola", "ab", "aa", "T"} {
		cents, e := b.Received(take)
		all = append(all, cents, e)
	}
	return all
}

// isSame fails a test if two books give different answers, now or while they are told the same lines.
func isSame(t *testing.T, r *rand.Rand, one, other *finisher.Book) {
	t.Helper()
	for range 20 {
		if a, b := answers(one), answers(other); !reflect.DeepEqual(a, b) {
			t.Fatalf("%q and %q", a, b)
		}
		line := anyLine(r, 10)
		if e, f := one.Do(line), other.Do(line); e != f {
			t.Fatalf("%q: %d after %q, %d after %q", line, e, one.Lines(), f, other.Lines())
		}
	}
}

// forKept calls a function with kept lines of all sorts.
func forKept(times int, call func(r *rand.Rand, kept []string)) {
	r := newRandom()
	for range times {
		call(r, anyKept(r))
	}
}

// someByte returns a byte that stands in lines or nearly does.
func someByte(r *rand.Rand) byte {
	return oneOf[byte](r, ' ', '\n', '\t', '0', '1', '9', '-', '+', '/', 'a', 'z', 'A', '!', '~', 31, 127, 128, 255)
}

// spoiltText returns a text, and now and then one with another byte, one more, or one less.
func spoiltText(r *rand.Rand, s string, seldom int) string {
	if r.Intn(seldom) > 0 || s == "" {
		return s
	}
	at := r.Intn(len(s))
	more := string([]byte{someByte(r)})
	return s[:at] + oneOf(r, "", more, more, s[at:at+1]+more) + s[at+1:]
}

// spoiltLine returns a line, and now and then one with another byte or another word.
func spoiltLine(r *rand.Rand, line string, seldom int) string {
	if r.Intn(seldom) > 0 {
		return line
	}
	words := strings.Split(line, " ")
	words[r.Intn(len(words))] = oneOf(r, "0", "-1", "1001", "1000001", "100000000000000000000", "01", "1/0", "1/1001", "1/1", "x", "X", "abcdefghi", "", "x x")
	return oneOf(r, strings.Join(words, " "), spoiltText(r, line, 1))
}

// P14.1 and P14.3: books that are told lines of all sorts do what the definitions say, line by line.
func TestBooks(t *testing.T) {
	r := newRandom()
	count := make(map[api.Errno]int)
	for range 300 {
		b, back := finisher.New(), oneOf(r, 0, 2, 10)
		var kept []string
		for range oneOf(r, 5, 30, 100, 600) {
			line, want := spoiltLine(r, anyLine(r, back), 8), api.OK
			kept, want = tell(kept, line)
			if e := b.Do(line); e != want {
				t.Fatalf("Do %q after %q: %d, want %d", line, kept, e, want)
			}
			count[want]++
		}
		if !slices.Equal(b.Lines(), kept) {
			t.Fatalf("Lines: %q, want %q", b.Lines(), kept)
		}
		accounts, house := worldOf(kept).accounts()
		if !slices.Equal(b.Accounts(), accounts) || b.House() != house || b.File() != file(kept) {
			t.Fatalf("%q: %v, house %d, %q, want %v, %d, %q", kept, b.Accounts(), b.House(), b.File(), accounts, house, file(kept))
		}
		for take, cents := range worldOf(kept).received() {
			if received(t, b, take) != cents {
				t.Fatalf("%q: %s has received %d, want %d", kept, take, received(t, b, take), cents)
			}
		}
	}
	for _, e := range []api.Errno{api.OK, api.ErrForm, api.ErrName, api.ErrRange, api.ErrMany, api.ErrNone, api.ErrTwice, api.ErrOver, api.ErrKind, api.ErrSum} {
		if count[e] < 50 {
			t.Errorf("just %d lines have the error %d", count[e], e)
		}
	}
}

// P14.2: a text does what its lines do, one after the other, up to the first one with an error.
func TestRunIsDo(t *testing.T) {
	count := make(map[api.Errno]int)
	forKept(500, func(r *rand.Rand, kept []string) {
		before := r.Intn(len(kept) + 1)
		b, c := bookOf(t, kept[:before]...), bookOf(t, kept[:before]...)
		text := spoiltText(r, strings.Join(append(kept[before:], ""), "\n"), 2)
		done, e := b.Run(text)
		told, want := 0, api.OK
		if text != "" && text[len(text)-1] != '\n' {
			want = api.ErrTorn
		}
		for rest := text; want == api.OK && rest != ""; {
			var line string
			line, rest, _ = strings.Cut(rest, "\n")
			if want = c.Do(line); want == api.OK {
				told++
			}
		}
		if done != told || e != want || !reflect.DeepEqual(answers(b), answers(c)) {
			t.Fatalf("Run of %q after %q: %d, %d, want %d, %d", text, kept[:before], done, e, told, want)
		}
		count[e]++
	})
	for _, e := range []api.Errno{api.OK, api.ErrForm, api.ErrTorn, api.ErrKind} {
		if count[e] < 10 {
			t.Errorf("just %d texts have the error %d", count[e], e)
		}
	}
}

// P14.7 (G6, G8): a new book that is told the kept lines is the same.
func TestKept(t *testing.T) {
	r := newRandom()
	for range 200 {
		b := finisher.New()
		for range oneOf(r, 5, 30, 300) {
			b.Do(anyLine(r, 10))
		}
		isSame(t, r, b, bookOf(t, b.Lines()...))
	}
}

// P14.7 (G6): a book that went back to a mark is as it was when the mark was told, however often it goes back.
func TestNoTrace(t *testing.T) {
	forKept(200, func(r *rand.Rand, kept []string) {
		b := bookOf(t, kept...)
		if b.Do("mark here") != api.OK {
			return
		}
		before := answers(b)
		for range 3 {
			for range 30 {
				b.Do(anyLine(r, 0))
			}
			must(t, b.Do("back here"))
			if after := answers(b); !reflect.DeepEqual(before, after) {
				t.Fatalf("%q before, and %q after it", before, after)
			}
		}
		isSame(t, r, b, bookOf(t, plus(kept, "mark here")...))
	})
}

// P14.8 (G2): nothing is lost, and nobody gets more than is due, or a cent less for a take.
func TestToTheCent(t *testing.T) {
	forKept(500, func(_ *rand.Rand, kept []string) {
		b := bookOf(t, kept...)
		all, due, royalties := 0, map[string]*big.Rat{}, map[string]int64{}
		for take, parts := range worldOf(kept).takes {
			all += received(t, b, take)
			for artist, part := range parts {
				if due[artist] == nil {
					due[artist] = new(big.Rat)
				}
				due[artist].Add(due[artist], royalty(received(t, b, take), part))
				royalties[artist]++
			}
		}
		left := b.House()
		for _, a := range b.Accounts() {
			left += a.Cents
			under := new(big.Rat).Sub(due[a.Artist], big.NewRat(int64(a.Cents), 1))
			if under.Sign() < 0 || under.Cmp(big.NewRat(royalties[a.Artist], 1)) >= 0 {
				t.Fatalf("%q: %v, %v are due", kept, a, due[a.Artist])
			}
		}
		if left != all || b.House() < 0 || len(b.Accounts()) != len(due) {
			t.Fatalf("%q: %d are received, %v and %d are kept", kept, all, b.Accounts(), b.House())
		}
	})
}

// shuffled returns lines in another order in which each one is done.
func shuffled(r *rand.Rand, lines []string) []string {
	b := finisher.New()
	for len(b.Lines()) < len(lines) {
		left := slices.Clone(lines)
		for _, line := range b.Lines() {
			i := slices.Index(left, line)
			left = slices.Delete(left, i, i+1)
		}
		for _, i := range r.Perm(len(left)) {
			if r.Intn(2) == 0 {
				b.Do(left[i])
			}
		}
	}
	return b.Lines()
}

// divided returns lines in which copies are sold in several lines.
func divided(r *rand.Rand, lines []string) []string {
	var all []string
	for _, line := range lines {
		if t, _ := parsed(line); t.kind == "sell" && t.numbers[0] > 1 && len(lines) < 150 {
			some := between(r, 1, t.numbers[0]-1)
			all = append(all, fmt.Sprintf("sell %s %d", t.names[0], some), fmt.Sprintf("sell %s %d", t.names[0], t.numbers[0]-some))
			continue
		}
		all = append(all, line)
	}
	return all
}

// P14.9 (G5): the order of lines does not matter, nor in how many lines copies are sold.
func TestAnyOrder(t *testing.T) {
	other := 0
	forKept(200, func(r *rand.Rand, kept []string) {
		b := bookOf(t, kept...)
		for _, lines := range [][]string{shuffled(r, kept), divided(r, kept), shuffled(r, divided(r, kept))} {
			c := bookOf(t, lines...)
			if !slices.Equal(b.Accounts(), c.Accounts()) || b.House() != c.House() || b.File() != c.File() {
				t.Fatalf("%q: %v, %q; %q: %v, %q", kept, b.Accounts(), b.File(), lines, c.Accounts(), c.File())
			}
			if !slices.Equal(kept, lines) {
				other++
			}
		}
	})
	if other < 300 {
		t.Errorf("just %d are in another order", other)
	}
}

// P14.4 and P14.10 (G6, G8): the file of each book is read, and the book has the lines between, and the same accounts and file.
func TestByteForByte(t *testing.T) {
	forKept(200, func(r *rand.Rand, kept []string) {
		b := bookOf(t, kept...)
		c, e := finisher.Read(b.File())
		must(t, e)
		if c.File() != b.File() || !slices.Equal(c.Accounts(), b.Accounts()) || c.House() != b.House() {
			t.Fatalf("%q: %q, %v; %q, %v", kept, b.File(), b.Accounts(), c.File(), c.Accounts())
		}
		between := c.Lines()
		if lines(plus(plus([]string{"pianola"}, between...), fmt.Sprint("end ", len(between)))...) != b.File() {
			t.Fatalf("%q: %q", b.File(), between)
		}
		isSame(t, r, c, bookOf(t, between...))
	})
}

// spoiltFile returns a file that can have other lines, in another order, or another number of them.
func spoiltFile(r *rand.Rand, s string) string {
	l := strings.SplitAfter(s, "\n")
	l = l[:len(l)-1]
	at, other := r.Intn(len(l)), r.Intn(len(l))
	switch r.Intn(6) {
	case 0:
		l[at], l[other] = l[other], l[at]
	case 1:
		l = slices.Delete(l, at, at+1)
	case 2:
		l = slices.Insert(l, at, l[other])
	case 3:
		l = slices.Insert(l, at, oneOf(r, "\n", "mark m\n", anyLine(r, 1)+"\n"))
	case 4:
		l[at] = anyLine(r, 1) + "\n"
	}
	if r.Intn(4) > 0 && len(l) > 2 {
		l[len(l)-1] = fmt.Sprintf("end %d\n", len(l)-2)
	}
	s = spoiltText(r, strings.Join(l, ""), 3)
	return oneOf(r, s, s, s, s, s, s, s, s[:r.Intn(len(s)+1)])
}

// P14.4 and P14.10: Read accepts files of books and nothing else, and returns the right errors of other texts.
func TestOnlyFiles(t *testing.T) {
	count := make(map[api.Errno]int)
	forKept(1000, func(r *rand.Rand, kept []string) {
		s := spoiltFile(r, file(kept))
		b, e := finisher.Read(s)
		if e != fileError(s) || (e == api.OK) != (b != nil) {
			t.Fatalf("Read of %q: %v, %d, want %d", s, b, e, fileError(s))
		}
		if e == api.OK && b.File() != s {
			t.Fatalf("Read of %q: %q", s, b.File())
		}
		count[e]++
	})
	for _, e := range []api.Errno{api.OK, api.ErrForm, api.ErrTorn, api.ErrNone, api.ErrTwice, api.ErrKind, api.ErrOrder} {
		if count[e] < 10 {
			t.Errorf("just %d files have the error %d", count[e], e)
		}
	}
}

// P14.11 (G6): Pack packs as the definition says, Unpack returns the same roll, and no proper beginning is accepted.
func TestPacked(t *testing.T) {
	r := newRandom()
	for range 2000 {
		roll := anyRoll(r)
		s, e := finisher.Pack(roll)
		if s != packed(roll) || e != api.OK {
			t.Fatalf("Pack of %v: %v, %d, want %v", roll, []byte(s), e, []byte(packed(roll)))
		}
		if again, e := finisher.Unpack(s); !slices.Equal(again, roll) || e != api.OK {
			t.Fatalf("Unpack of %v: %v, %d, want %v", []byte(s), again, e, roll)
		}
		for i := range len(s) {
			if again, e := finisher.Unpack(s[:i]); e != api.ErrTorn || len(again) > 0 {
				t.Fatalf("Unpack of %v: %v, %d", []byte(s[:i]), again, e)
			}
		}
	}
}

// isUnpacked fails a test if Unpack accepts something that is no packed roll, or returns another error than the definitions say.
func isUnpacked(t *testing.T, s string) api.Errno {
	t.Helper()
	roll, e := finisher.Unpack(s)
	want, f := unpacked(s)
	if !slices.Equal(roll, want) || e != f {
		t.Fatalf("Unpack of %v: %v, %d, want %v, %d", []byte(s), roll, e, want, f)
	}
	if e == api.OK && packed(roll) != s {
		t.Fatalf("Unpack of %v: %v", []byte(s), roll)
	}
	return e
}

// P14.5 and P14.11: all short strings with some bytes, and packed rolls with a few other bytes, are accepted just if they are packed rolls.
func TestOnlyPacked(t *testing.T) {
	some := []byte{0, 1, 2, 5, 8, 88, 127, 128, 129, 130, 250, 251, 255}
	count := make(map[api.Errno]int)
	all := []string{""}
	for range 5 {
		var longer []string
		for _, s := range all {
			count[isUnpacked(t, s)]++
			for _, c := range some {
				longer = append(longer, s+string([]byte{c}))
			}
		}
		all = longer
	}
	r := newRandom()
	for range 50000 {
		s := []byte(packed(anyRoll(r)))
		for range between(r, 1, 2) {
			s[r.Intn(len(s))] = oneOf(r, byte(r.Intn(256)), some[r.Intn(len(some))])
		}
		if r.Intn(2) == 0 {
			s = []byte(withSum(string(s[:len(s)-1])))
		}
		count[isUnpacked(t, string(s)+oneOf(r, "", "", "", "\x00", "x"))]++
	}
	for _, e := range []api.Errno{api.OK, api.ErrForm, api.ErrRange, api.ErrMany, api.ErrOrder, api.ErrTwice, api.ErrSum, api.ErrTorn, api.ErrLong} {
		if count[e] < 20 {
			t.Errorf("just %d strings have the error %d", count[e], e)
		}
	}
}

// P14.12: with more copies sold no account becomes smaller, nor what is received, nor anything but the take of the edition.
func TestMoreSold(t *testing.T) {
	more := 0
	forKept(300, func(r *rand.Rand, kept []string) {
		b := bookOf(t, kept...)
		for name, x := range worldOf(kept).editions {
			take, accounts, house := received(t, b, x.take), b.Accounts(), b.House()
			if b.Do(fmt.Sprintf("sell %s %d", name, oneOf(r, 1, between(r, 1, 100000)))) != api.OK {
				continue
			}
			if received(t, b, x.take) < take || b.House() < 0 {
				t.Fatalf("%q: %d, then %d, house %d", kept, take, received(t, b, x.take), b.House())
			}
			for i, a := range b.Accounts() {
				if a.Artist != accounts[i].Artist || a.Cents < accounts[i].Cents {
					t.Fatalf("%q: %v, then %v", kept, accounts, b.Accounts())
				}
			}
			if received(t, b, x.take) > take || b.House() > house {
				more++
			}
		}
	})
	if more < 200 {
		t.Errorf("just %d sales bring more", more)
	}
}

// R2: a line with an error leaves a book as it was.
func TestErrorsChangeNothing(t *testing.T) {
	forKept(200, func(r *rand.Rand, kept []string) {
		b := bookOf(t, kept...)
		before := answers(b)
		for range 20 {
			if line := spoiltLine(r, anyLine(r, 0), 2); b.Do(line) == api.OK {
				before = answers(b)
			}
			if after := answers(b); !reflect.DeepEqual(before, after) {
				t.Fatalf("%q before, and %q after it", before, after)
			}
		}
	})
}

// R3: nil rolls and empty ones are equivalent.
func TestNilIsEmpty(t *testing.T) {
	s, e := finisher.Pack(nil)
	if other, f := finisher.Pack(edit.Roll{}); s != other || e != f {
		t.Errorf("Pack: %q, %d for nil, %q, %d for an empty roll", s, e, other, f)
	}
}

// R4 and P1: results share no memory with a book or with other results, rolls are not changed, and the same calls give the same results.
func TestNothingIsKept(t *testing.T) {
	forKept(300, func(r *rand.Rand, kept []string) {
		b := bookOf(t, kept...)
		before := answers(b)
		texts, accounts := b.Lines(), b.Accounts()
		texts, accounts = texts[:cap(texts)], accounts[:cap(accounts)]
		for i := range texts {
			texts[i] = "take zz"
		}
		for i := range accounts {
			accounts[i] = finisher.Account{Artist: "zz", Cents: -1}
		}
		if after := answers(b); !reflect.DeepEqual(before, after) {
			t.Fatalf("%q and then %q", before, after)
		}
		roll := append(anyRoll(r), note(7, 8, 9))
		copied := slices.Clone(roll)
		s, e := finisher.Pack(roll[:len(roll)-1])
		must(t, e)
		first, e := finisher.Unpack(s)
		must(t, e)
		first = first[:cap(first)]
		clear(first)
		second, e := finisher.Unpack(s)
		if !slices.Equal(roll, copied) || !slices.Equal(second, roll[:len(roll)-1]) || e != api.OK {
			t.Fatalf("%v, then %v, %d, want %v", roll, second, e, copied)
		}
	})
}

// P14.7: books know nothing of each other: one that is told the lines of two is not mixed up with them.
func TestTwoBooks(t *testing.T) {
	forKept(200, func(r *rand.Rand, kept []string) {
		one, other := finisher.New(), finisher.New()
		more := anyKept(r)
		for i := range max(len(kept), len(more)) {
			if i < len(kept) {
				must(t, one.Do(kept[i]))
			}
			if i < len(more) {
				must(t, other.Do(more[i]))
			}
		}
		isSame(t, r, one, bookOf(t, kept...))
		isSame(t, r, other, bookOf(t, more...))
	})
}

// spoilt returns a number or, now and then, another one, which can be extreme.
func spoilt(r *rand.Rand, number int) int {
	if r.Intn(60) == 0 {
		return oneOf(r, math.MinInt, math.MinInt+1, -1<<32, -1, 0, 1, 87, 88, 1000, 1001, 1000000, 1000001, 1<<32, 1<<62, math.MaxInt-1, math.MaxInt)
	}
	return number
}

// anyCalls returns the results of all calls with arguments that are right but for a few bytes and numbers.
func anyCalls(r *rand.Rand, b *finisher.Book) [][]any {
	var all [][]any
	add := func(results ...any) { all = append(all, results) }
	line := spoiltLine(r, anyLine(r, 0), 4)
	add(b.Do(oneOf(r, line, line, line, strings.Repeat(line, 5))))
	add(b.Received(spoiltText(r, anyName(r, 14), 4)))
	if r.Intn(10) > 0 {
		return all
	}
	text := spoiltFile(r, b.File())
	if r.Intn(10) == 0 {
		text = strings.Repeat(text, 300)
	}
	add(finisher.Read(text))
	roll := anyRoll(r)
	for i, n := range roll {
		roll[i] = note(spoilt(r, n.At), spoilt(r, n.Key), spoilt(r, n.Long))
	}
	add(finisher.Pack(append(roll, make(edit.Roll, r.Intn(2))...)))
	add(finisher.Unpack(spoiltText(r, packed(anyRoll(r)), 2)))
	return all
}

// P1 (with R2): all calls end for any arguments, and return zero values with an error.
func TestAnyArguments(t *testing.T) {
	r := newRandom()
	count := make(map[api.Errno]int)
	b := finisher.New()
	for i := range 20000 {
		if i%5000 == 0 {
			b = finisher.New()
		}
		for _, results := range anyCalls(r, b) {
			last := len(results) - 1
			e := results[last].(api.Errno)
			count[e]++
			if e == api.OK {
				continue
			}
			for _, result := range results[:last] {
				if v := reflect.ValueOf(result); !v.IsZero() && !(v.Kind() == reflect.Slice && v.Len() == 0) {
					t.Fatalf("a result is %v with the error %d", result, e)
				}
			}
		}
	}
	for _, e := range []api.Errno{api.OK, api.ErrForm, api.ErrName, api.ErrRange, api.ErrMany, api.ErrOrder, api.ErrNone, api.ErrTwice, api.ErrOver, api.ErrKind, api.ErrFull, api.ErrSum, api.ErrTorn, api.ErrLong} {
		if count[e] < 20 {
			t.Errorf("just %d calls have the error %d", count[e], e)
		}
	}
}
