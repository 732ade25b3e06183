package finisher_test

import (
	"encoding/binary"
	"fmt"
	"maps"
	"math/big"
	"math/rand"
	"regexp"
	"slices"
	"strings"

	"pianola/api"
	"pianola/edit"
	"pianola/finisher"
)

// The reference follows the chapter's definitions word by word: forms are regular expressions, cents are numbers of any size, and what there is in a book is collected in maps, anew for each line.

// newRandom returns a source of random numbers, the same for each call.
func newRandom() *rand.Rand { return rand.New(rand.NewSource(140)) }

// between returns a random number within bounds.
func between(r *rand.Rand, lo, hi int) int { return lo + r.Intn(hi-lo+1) }

// oneOf returns one of some elements.
func oneOf[T any](r *rand.Rand, l ...T) T { return l[r.Intn(len(l))] }

// form is the form of the lines of a kind, and the greatest one of their numbers.
type form struct {
	of       string // @ stands for a name, and # for a number
	greatest int64
}

// table returns the table of the chapter.
func table() map[string]form {
	return map[string]form{
		"cur":     {"cur @ #/#", 1000},
		"take":    {"take @", 0},
		"part":    {"part @ @ #", 1000},
		"edition": {"edition @ @ # @", 100000},
		"sell":    {"sell @ #", 1000000},
		"mark":    {"mark @", 0},
		"back":    {"back @", 0},
	}
}

var (
	someLine = regexp.MustCompile(`^[!-~]+( [!-~]+)*$`)
	someName = regexp.MustCompile(`^[a-z]{1,8}$`)
	anything = strings.NewReplacer("@", `([!-~]+)`, "#", `(0|-?[1-9][0-9]*)`)
	forms    = map[string]*regexp.Regexp{}
)

func init() {
	for kind, f := range table() {
		forms[kind] = regexp.MustCompile("^" + anything.Replace(f.of) + "$")
	}
}

// told is a line in its parts.
type told struct {
	kind    string
	names   []string
	numbers []int
}

// known has lines that were parsed before, since this takes long.
var known = map[string]told{}

// parsed returns the parts of a line, or the first error of its text.
func parsed(line string) (told, api.Errno) {
	if t, found := known[line]; found {
		return t, api.OK
	}
	kind, _, _ := strings.Cut(line, " ")
	f, found := table()[kind]
	switch {
	case len(line) > 60:
		return told{}, api.ErrLong
	case !someLine.MatchString(line):
		return told{}, api.ErrForm
	case !found:
		return told{}, api.ErrKind
	case !forms[kind].MatchString(line):
		return told{}, api.ErrForm
	}
	t := told{kind: kind}
	areNames, areInRange := true, true
	signs := strings.NewReplacer(" ", "", "/", "").Replace(f.of[len(kind):])
	for i, word := range forms[kind].FindStringSubmatch(line)[1:] {
		if signs[i] == '@' {
			areNames = areNames && someName.MatchString(word)
			t.names = append(t.names, word)
			continue
		}
		n, _ := new(big.Int).SetString(word, 10)
		areInRange = areInRange && n.Sign() > 0 && n.Cmp(big.NewInt(f.greatest)) <= 0
		t.numbers = append(t.numbers, int(n.Int64()))
	}
	switch {
	case !areNames:
		return told{}, api.ErrName
	case !areInRange:
		return told{}, api.ErrRange
	}
	known[line] = t
	return t, api.OK
}

// edition is an edition and how many copies are sold.
type edition struct {
	take, currency string
	price, copies  int
}

// world is what there is after some lines.
type world struct {
	currencies map[string]*big.Rat
	takes      map[string]map[string]int // the parts
	editions   map[string]*edition
	marks      map[string]int // the number of kept lines up to the mark
}

// worldOf returns what there is after kept lines.
func worldOf(lines []string) world {
	w := world{map[string]*big.Rat{}, map[string]map[string]int{}, map[string]*edition{}, map[string]int{}}
	for i, line := range lines {
		t, _ := parsed(line)
		switch name := t.names[0]; t.kind {
		case "cur":
			w.currencies[name] = big.NewRat(int64(t.numbers[0]), int64(t.numbers[1]))
		case "take":
			w.takes[name] = map[string]int{}
		case "part":
			w.takes[name][t.names[1]] = t.numbers[0]
		case "edition":
			w.editions[name] = &edition{t.names[1], t.names[2], t.numbers[0], 0}
		case "sell":
			w.editions[name].copies += t.numbers[0]
		case "mark":
			w.marks[name] = i + 1
		}
	}
	return w
}

// has reports whether there is something.
func has[V any](m map[string]V, name string) bool {
	_, found := m[name]
	return found
}

// check returns the error of a line with what there is, after so many kept lines.
func (w world) check(t told, kept int) api.Errno {
	var none, twice, sum, many, over bool
	switch name := t.names[0]; t.kind {
	case "cur":
		twice, many = has(w.currencies, name), len(w.currencies) == 6
	case "take":
		twice, many = has(w.takes, name), len(w.takes) == 10
	case "part":
		parts := w.takes[name]
		none, twice, many = !has(w.takes, name), has(parts, t.names[1]), len(parts) == 8
		all := t.numbers[0]
		for _, n := range parts {
			all += n
		}
		sum = all > 1000
	case "edition":
		none = !has(w.takes, t.names[1]) || !has(w.currencies, t.names[2])
		twice, many = has(w.editions, name), len(w.editions) == 16
	case "sell":
		none = !has(w.editions, name)
		over = !none && w.editions[name].copies+t.numbers[0] > 1000000
	case "mark":
		twice, many = has(w.marks, name), len(w.marks) == 8
	case "back":
		none = !has(w.marks, name)
	}
	switch {
	case none:
		return api.ErrNone
	case twice:
		return api.ErrTwice
	case sum:
		return api.ErrSum
	case many:
		return api.ErrMany
	case over:
		return api.ErrOver
	case t.kind != "back" && kept == 300:
		return api.ErrFull
	}
	return api.OK
}

// tell returns the kept lines after one more line, or its error.
func tell(kept []string, line string) ([]string, api.Errno) {
	t, e := parsed(line)
	if e != api.OK {
		return kept, e
	}
	w := worldOf(kept)
	if e := w.check(t, len(kept)); e != api.OK {
		return kept, e
	}
	if t.kind == "back" {
		return slices.Clone(kept[:w.marks[t.names[0]]]), api.OK
	}
	return append(slices.Clone(kept), line), api.OK
}

// down returns a fraction rounded down.
func down(x *big.Rat) *big.Int { return new(big.Int).Div(x.Num(), x.Denom()) }

// times returns a product.
func times(x *big.Rat, numbers ...int) *big.Rat {
	y := new(big.Rat).Set(x)
	for _, n := range numbers {
		y.Mul(y, big.NewRat(int64(n), 1))
	}
	return y
}

// received returns what each take has received.
func (w world) received() map[string]int {
	cents := map[string]int{}
	for take := range w.takes {
		cents[take] = 0
	}
	for _, x := range w.editions {
		cents[x.take] += int(down(times(w.currencies[x.currency], x.copies, x.price)).Int64())
	}
	return cents
}

// royalty returns what is due exactly for a part of what a take has received.
func royalty(received, part int) *big.Rat { return times(big.NewRat(int64(part), 1000), received) }

// accounts returns the accounts of all artists, and what the house keeps.
func (w world) accounts() (list []finisher.Account, house int) {
	cents := map[string]int{}
	for take, received := range w.received() {
		house += received
		for artist, part := range w.takes[take] {
			due := int(down(royalty(received, part)).Int64())
			cents[artist] += due
			house -= due
		}
	}
	for _, artist := range slices.Sorted(maps.Keys(cents)) {
		list = append(list, finisher.Account{Artist: artist, Cents: cents[artist]})
	}
	return list, house
}

// starting returns the lines that begin with something, in order. In this order names are sorted, since a blank is less than any letter.
func starting(lines []string, with string) []string {
	var l []string
	for _, line := range lines {
		if strings.HasPrefix(line, with) {
			l = append(l, line)
		}
	}
	slices.Sort(l)
	return l
}

// file returns the file of a book with these kept lines.
func file(kept []string) string {
	lines := starting(kept, "cur ")
	for _, take := range starting(kept, "take ") {
		lines = append(lines, take)
		lines = append(lines, starting(kept, "part "+strings.Fields(take)[1]+" ")...)
	}
	for _, line := range starting(kept, "edition ") {
		lines = append(lines, line)
		name := strings.Fields(line)[1]
		if copies := worldOf(kept).editions[name].copies; copies > 0 {
			lines = append(lines, fmt.Sprintf("sell %s %d", name, copies))
		}
	}
	all := "pianola\n"
	for _, line := range lines {
		all += line + "\n"
	}
	return all + fmt.Sprintf("end %d\n", len(lines))
}

// fileError returns the error of a file.
func fileError(s string) api.Errno {
	switch {
	case len(s) > 20000:
		return api.ErrLong
	case s == "" || s[len(s)-1] != '\n':
		return api.ErrTorn
	}
	lines := strings.Split(s[:len(s)-1], "\n")
	between := len(lines) - 2
	if between < 0 || lines[0] != "pianola" || lines[between+1] != fmt.Sprint("end ", between) {
		return api.ErrForm
	}
	var kept []string
	for _, line := range lines[1 : between+1] {
		var e api.Errno
		if kept, e = tell(kept, line); e != api.OK {
			return e
		}
	}
	if file(kept) != s {
		return api.ErrOrder
	}
	return api.OK
}

// packed returns a roll as bytes.
func packed(r edit.Roll) string {
	l := binary.AppendUvarint(nil, uint64(len(r)))
	for i, n := range r {
		if i > 0 {
			n.At -= r[i-1].At
		}
		for _, number := range []int{n.At, n.Key, n.Long} {
			l = binary.AppendUvarint(l, uint64(number))
		}
	}
	return withSum(string(l))
}

// withSum returns bytes with their sum as a last byte.
func withSum(s string) string {
	sum := 0
	for i := range len(s) {
		sum += int(s[i])
	}
	return s + string([]byte{byte(sum % 251)})
}

// packedNumber returns the number at the beginning of bytes, and the bytes after it, or its error.
func packedNumber(s string) (n int, rest string, e api.Errno) {
	more := 0
	for more < len(s) && s[more] >= 128 {
		more++
	}
	switch {
	case more >= 4:
		return 0, "", api.ErrForm
	case more == len(s):
		return 0, "", api.ErrTorn
	case more > 0 && s[more] == 0:
		return 0, "", api.ErrForm
	}
	u, _ := binary.Uvarint([]byte(s))
	return int(u), s[more+1:], api.OK
}

// unpacked returns a packed roll, or its error.
func unpacked(s string) (edit.Roll, api.Errno) {
	notes, rest, e := packedNumber(s)
	if e == api.OK && notes > 30 {
		e = api.ErrMany
	}
	r := make(edit.Roll, min(notes, 30))
	for i := 0; i < 3*notes && e == api.OK; i++ {
		n := &r[i/3]
		var number int
		number, rest, e = packedNumber(rest)
		*[]*int{&n.At, &n.Key, &n.Long}[i%3] = number
		if i%3 == 0 && i > 0 {
			n.At += r[i/3-1].At
		}
	}
	if e == api.OK && rest == "" {
		e = api.ErrTorn
	}
	if e == api.OK {
		e = edit.Check(r)
	}
	switch {
	case e != api.OK:
		return nil, e
	case withSum(s[:len(s)-len(rest)]) != s[:len(s)-len(rest)+1]:
		return nil, api.ErrSum
	case len(rest) > 1:
		return nil, api.ErrLong
	}
	return r, api.OK
}

// anyName returns one of so many names, the same ones for all kinds.
func anyName(r *rand.Rand, names int) string {
	all := []string{"b", "ba", "abcdefgh", "a", "z", "cur", "mark", "take", "end", "pianola", "ab", "aa"}
	i := r.Intn(names)
	if i < len(all) {
		return all[i]
	}
	return "x" + string([]byte{byte('a' + i - len(all))})
}

// anyLine returns a line of the table with names of the kinds that are in use. A line goes back only so often.
func anyLine(r *rand.Rand, back int) string {
	if r.Intn(100) < back {
		return "back " + anyName(r, 9)
	}
	price := oneOf(r, between(r, 1, 100), 100000, between(r, 1, 100000))
	copies := oneOf(r, between(r, 1, 10), between(r, 1, 1000), between(r, 1, 1000000))
	switch r.Intn(12) {
	case 0:
		return fmt.Sprintf("cur %s %d/%d", anyName(r, 7), between(r, 1, 1000), oneOf(r, 1, between(r, 1, 20), between(r, 1, 1000)))
	case 1:
		return "take " + anyName(r, 11)
	case 2, 3, 4, 5:
		return fmt.Sprintf("part %s %s %d", anyName(r, 11), anyName(r, 14), oneOf(r, 1, between(r, 1, 100), between(r, 1, 400), between(r, 1, 1000)))
	case 6, 7:
		return fmt.Sprintf("edition %s %s %d %s", anyName(r, 18), anyName(r, 11), price, anyName(r, 7))
	case 8:
		return "mark " + anyName(r, 9)
	}
	return fmt.Sprintf("sell %s %d", anyName(r, 18), copies)
}

// anyKept returns the kept lines of a book that was told some lines.
func anyKept(r *rand.Rand) []string {
	var kept []string
	back := oneOf(r, 0, 0, 2, 10)
	for range oneOf(r, 5, 30, 100, 300) {
		kept, _ = tell(kept, anyLine(r, back))
	}
	return kept
}

// anyRoll returns a roll.
func anyRoll(r *rand.Rand) edit.Roll {
	m := map[[2]int]int{}
	latest := oneOf(r, 3, 300, 1000000)
	for range r.Intn(31) {
		m[[2]int{between(r, 0, latest), between(r, 0, 87)}] = oneOf(r, 1, 127, 128, 1000, between(r, 1, 1000))
	}
	var roll edit.Roll
	for place, long := range m {
		roll = append(roll, edit.Note{At: place[0], Key: place[1], Long: long})
	}
	slices.SortFunc(roll, func(x, y edit.Note) int { return slices.Compare([]int{x.At, x.Key}, []int{y.At, y.Key}) })
	return roll
}
