package torn_test

import (
	"math"
	"slices"
	"testing"

	"pianola/api"
	"pianola/torn"
)

// same returns a list of equal numbers.
func same(n, size int) []int { return slices.Repeat(list(n), size) }

// down returns the numbers from a greatest one down to 1.
func down(n int) []int {
	var l []int
	for ; n > 0; n-- {
		l = append(l, n)
	}
	return l
}

// The sheets of the chapter's examples.
func sheetX() torn.Sheet { return sheet(list(2, 1, 2), list(2, 2, 1)) }
func sheetY() torn.Sheet { return sheet(list(3, 3, 0), list(3, 2, 1)) }
func sheetZ() torn.Sheet { return sheet(list(3, 1, 0), list(2, 1, 1)) }

// sheets are sheets with the errors of Check.
var sheets = []struct {
	name string
	x    torn.Sheet
	want api.Errno
}{
	{"X", sheetX(), api.OK},
	{"one place", sheet(list(0), list(0)), api.OK},
	{"the bounds", sheet(same(20, 20), same(20, 20)), api.OK},
	{"more than there is room for", sheet(list(20), list(20)), api.OK},
	{"nothing", torn.Sheet{}, api.ErrEmpty},
	{"empty lists", sheet(list(), list()), api.ErrEmpty},
	{"no row", sheet(nil, list(1)), api.ErrEmpty},
	{"no key", sheet(list(1), nil), api.ErrEmpty},
	{"no row and too many keys", sheet(nil, same(0, 21)), api.ErrEmpty},
	{"too many rows", sheet(same(0, 21), list(0)), api.ErrMany},
	{"too many rows and no key", sheet(same(0, 21), nil), api.ErrMany},
	{"too many rows that are out of range", sheet(same(21, 21), list(0)), api.ErrMany},
	{"too many keys", sheet(list(0), same(0, 21)), api.ErrMany},
	{"too many keys that are out of range", sheet(list(0), same(-1, 21)), api.ErrMany},
	{"a row below the bound", sheet(list(-1), list(0)), api.ErrRange},
	{"a row above the bound", sheet(list(0, 0, 21), list(0)), api.ErrRange},
	{"a row out of range and too many keys", sheet(list(21), same(0, 21)), api.ErrRange},
	{"a row out of range and no key", sheet(list(21), nil), api.ErrRange},
	{"a key below the bound", sheet(list(0), list(0, -1)), api.ErrRange},
	{"a key above the bound", sheet(list(0), list(21)), api.ErrRange},
	{"the least number", sheet(list(math.MinInt), list(0)), api.ErrRange},
	{"the greatest number", sheet(list(0), list(math.MaxInt)), api.ErrRange},
}

// P11.1 to P11.6: all functions return the error of Check, before any other one.
func TestCheck(t *testing.T) {
	for _, c := range sheets {
		if e := torn.Check(c.x); e != c.want {
			t.Errorf("%s: %d, want %d", c.name, e, c.want)
		}
		if c.want == api.OK {
			continue
		}
		made, a := torn.Make(c.x)
		b := torn.Fits(c.x, lists(list(-1)))
		clash, d := torn.Clash(c.x)
		f := torn.Verify(c.x, nil)
		certain, g := torn.Certain(c.x)
		count, h := torn.Count(c.x)
		share, j := torn.Share(c.x, -1, -1)
		if l := []api.Errno{a, b, d, f, g, h, j}; !slices.Equal(l, slices.Repeat([]api.Errno{c.want}, 7)) {
			t.Errorf("%s: %v, want %d", c.name, l, c.want)
		}
		if len(made) > 0 || len(clash) > 0 || len(certain) > 0 || count != 0 || share != part(0, 0) {
			t.Errorf("%s: %v, %v, %v, %d, %v", c.name, made, clash, certain, count, share)
		}
	}
}

// wholes are sheets with what Make and Certain return. 0, 1 and 2 are Empty, Full and Open. Where nothing is stated, the reference says it.
var wholes = []struct {
	name    string
	x       torn.Sheet
	filling [][]int
	certain [][]int
	e       api.Errno
}{
	{"X", sheetX(), lists(list(0, 1), list(0), list(1, 2)), lists(list(2, 2, 2), list(2, 2, 2), list(2, 2, 2)), api.OK},
	{"Y", sheetY(), nil, nil, api.ErrClash},
	{"Z", sheetZ(), lists(list(0, 1, 2), list(0), nil), lists(list(1, 1, 1), list(1, 0, 0), list(0, 0, 0)), api.OK},
	{"another sum", sheet(list(1, 1), list(1, 2)), nil, nil, api.ErrSum},
	{"another sum and a clash", sheet(list(2, 0), list(1)), nil, nil, api.ErrSum},
	{"one gap", sheet(list(0), list(0)), lists(nil), lists(list(0)), api.OK},
	{"one hole", sheet(list(1), list(1)), lists(list(0)), lists(list(1)), api.OK},
	{"no room at a place", sheet(list(2), list(2)), nil, nil, api.ErrClash},
	{"no room in a row", sheet(list(20), list(20)), nil, nil, api.ErrClash},
	{"no room at a key", sheet(list(1, 1), list(0, 2, 0)), lists(list(1), list(1)), lists(list(0, 1, 0), list(0, 1, 0)), api.OK},
	{"more rows than a key needs", sheet(list(1, 1, 1), list(1, 2)), lists(list(1), list(0), list(1)), lists(list(2, 2), list(2, 2), list(2, 2)), api.OK},
	{"a key needs more than there are rows", sheet(list(2, 1), list(3, 0)), nil, nil, api.ErrClash},
	{"the last row has no key left", sheet(list(2, 2, 2), list(3, 3, 0)), lists(list(0, 1), list(0, 1), list(0, 1)), lists(list(1, 1, 0), list(1, 1, 0), list(1, 1, 0)), api.OK},
	{"a switch", sheet(list(1, 1), list(1, 1)), lists(list(0), list(1)), lists(list(2, 2), list(2, 2)), api.OK},
	{"equal keys, the smaller number first", sheet(list(2, 2), list(1, 1, 1, 1)), lists(list(0, 1), list(2, 3)), lists(same(2, 4), same(2, 4)), api.OK},
	{"what is needed changes from row to row", sheet(list(1, 1, 1, 1), list(1, 1, 2)), lists(list(2), list(0), list(1), list(2)), lists(same(2, 3), same(2, 3), same(2, 3), same(2, 3)), api.OK},
	{"the first row is not the one with the most", sheet(list(1, 3, 2), list(2, 2, 2)), lists(list(0), list(0, 1, 2), list(1, 2)), lists(same(2, 3), same(1, 3), same(2, 3)), api.OK},
	{"a certain key between open ones", sheet(list(2, 2), list(1, 2, 1)), lists(list(0, 1), list(1, 2)), lists(list(2, 1, 2), list(2, 1, 2)), api.OK},
	{"the last rows have the most", sheet(list(1, 1, 3, 3), list(2, 2, 3, 1)), lists(list(2), list(0), list(0, 1, 2), list(1, 2, 3)), lists(same(2, 4), same(2, 4), same(2, 4), same(2, 4)), api.OK},
	{"full and empty blocks between open ones", sheet(list(3, 3, 1, 1), list(3, 3, 1, 1)), lists(list(0, 1, 2), list(0, 1, 3), list(0), list(1)), lists(list(1, 1, 2, 2), list(1, 1, 2, 2), list(2, 2, 0, 0), list(2, 2, 0, 0)), api.OK},
	{"a ring of three", sheet(list(1, 1, 1), list(1, 1, 1)), lists(list(0), list(1), list(2)), lists(same(2, 3), same(2, 3), same(2, 3)), api.OK},
	{"stairs", sheet(down(20), down(20)), nil, nil, api.OK},
	{"all holes", sheet(same(20, 20), same(20, 20)), nil, nil, api.OK},
	{"half of the holes", sheet(same(10, 20), same(10, 20)), nil, nil, api.OK},
	{"one more than there is room for", sheet(append(same(20, 10), same(0, 10)...), append(same(11, 1), append(same(9, 1), same(10, 18)...)...)), nil, nil, api.ErrClash},
}

// P11.2 and P11.5: Make returns the filling as stated, and Certain what each place is, or their errors.
func TestMakeAndCertain(t *testing.T) {
	for _, c := range wholes {
		if c.e == api.OK && c.filling == nil {
			c.filling = made(c.x)
			c.certain = nil
			for row := range c.x.Rows {
				var l []int
				for key := range c.x.Keys {
					l = append(l, placeBy(c.x, row, key))
				}
				c.certain = append(c.certain, l)
			}
		}
		if f, e := torn.Make(c.x); !equal(f, c.filling) || e != c.e {
			t.Errorf("%s: Make: %v, %d, want %v, %d", c.name, f, e, c.filling, c.e)
		}
		if l, e := torn.Certain(c.x); !equal(l, c.certain) || e != c.e {
			t.Errorf("%s: Certain: %v, %d, want %v, %d", c.name, l, e, c.certain, c.e)
		}
	}
}

// P11.5: on a sheet with stairs all places are certain, on one that is half full none.
func TestCertainOfLargeSheets(t *testing.T) {
	for name, x := range map[string]torn.Sheet{"stairs": sheet(down(20), down(20)), "half": sheet(same(10, 20), same(10, 20)), "all": sheet(same(20, 20), same(20, 20)), "none": sheet(same(0, 20), same(0, 20))} {
		places, e := torn.Certain(x)
		if e != api.OK || len(places) != 20 {
			t.Fatalf("%s: %v, %d", name, places, e)
		}
		for row, l := range places {
			for key, kind := range l {
				want := map[string]int{"stairs": torn.Empty, "half": torn.Open, "all": torn.Full, "none": torn.Empty}[name]
				if name == "stairs" && row+key < 20 {
					want = torn.Full
				}
				if kind != want || len(l) != 20 {
					t.Errorf("%s: row %d, key %d: %d", name, row, key, kind)
				}
			}
		}
	}
}

// P11.3: Fits returns its errors in their order.
func TestFits(t *testing.T) {
	for _, c := range []struct {
		name    string
		x       torn.Sheet
		filling [][]int
		want    api.Errno
	}{
		{"example", sheetX(), lists(list(0, 1), list(0), list(1, 2)), api.OK},
		{"another one", sheetX(), lists(list(0, 2), list(1), list(0, 1)), api.OK},
		{"keys do not agree", sheetX(), lists(list(0, 1), list(1), list(0, 1)), api.ErrSum},
		{"rows do not agree", sheetX(), lists(list(0, 1), list(0, 1), list(2)), api.ErrSum},
		{"a hole is missing", sheetX(), lists(list(0, 1), list(0), list(1)), api.ErrSum},
		{"a hole more", sheetX(), lists(list(0, 1), list(0, 2), list(1, 2)), api.ErrSum},
		{"no holes", sheetX(), lists(nil, nil, nil), api.ErrSum},
		{"no holes are right", sheet(list(0, 0), list(0)), lists(nil, list()), api.OK},
		{"keys need more than the rows have", sheet(list(1), list(1, 1)), lists(list(0)), api.ErrSum},
		{"rows have more than the keys need", sheet(list(2), list(1, 0)), lists(list(0)), api.ErrSum},
		{"a row too few", sheetX(), lists(list(0, 1), list(0)), api.ErrShape},
		{"a row more", sheetX(), lists(list(0, 1), list(0), list(1, 2), nil), api.ErrShape},
		{"no rows", sheetX(), nil, api.ErrShape},
		{"no rows, as an empty list", sheetX(), lists(), api.ErrShape},
		{"a row more, with wrong numbers", sheetX(), lists(list(-1), nil, nil, nil), api.ErrShape},
		{"no key", sheetX(), lists(list(0, 3), list(0), list(1, 2)), api.ErrNone},
		{"no key before 0", sheetX(), lists(list(-1, 0), list(0), list(1, 2)), api.ErrNone},
		{"no key, and in the wrong order", sheetX(), lists(list(0, -1), list(0), list(1, 2)), api.ErrNone},
		{"no key in the first row, the wrong order in the next one", sheetX(), lists(list(0, 3), list(1, 0), list(1, 2)), api.ErrNone},
		{"the wrong order before what is no key", sheetX(), lists(list(1, 0, 3), list(9), list(1, 2)), api.ErrOrder},
		{"the wrong order in the first row", sheetX(), lists(list(1, 0), list(3), list(1, 2)), api.ErrOrder},
		{"twice", sheetX(), lists(list(0, 0), list(0), list(1, 2)), api.ErrOrder},
		{"the wrong order in the last row", sheetX(), lists(list(0, 1), list(0), list(2, 1)), api.ErrOrder},
		{"the greatest number", sheetX(), lists(list(0, 1), list(0), list(1, math.MaxInt)), api.ErrNone},
		{"the least number", sheetX(), lists(list(math.MinInt), list(0), list(1, 2)), api.ErrNone},
		{"no key but the number of a row", sheet(list(1, 1), list(2)), lists(list(0), list(1)), api.ErrNone},
		{"a key that is not the number of a row", sheet(list(2), list(1, 1)), lists(list(0, 1)), api.OK},
		{"the bounds", sheet(same(20, 20), same(20, 20)), slices.Repeat(subsets(0, 20, 20), 20), api.OK},
	} {
		if e := torn.Fits(c.x, c.filling); e != c.want {
			t.Errorf("%s: %d, want %d", c.name, e, c.want)
		}
	}
}

// P11.4: Clash returns a clash, or ErrNone.
func TestClash(t *testing.T) {
	for _, c := range []struct {
		name string
		x    torn.Sheet
		only []int // the only clash, if there is just one
		e    api.Errno
	}{
		{"X", sheetX(), nil, api.ErrNone},
		{"Y", sheetY(), list(0, 1), api.OK},
		{"Z", sheetZ(), nil, api.ErrNone},
		{"nothing", sheet(list(0), list(0)), nil, api.ErrNone},
		{"a row with more holes than keys", sheet(list(0, 0, 2), list(2)), list(2), api.OK},
		{"holes and no needs", sheet(list(0, 1), list(0, 0)), nil, api.OK},
		{"needs and no holes", sheet(list(0, 0), list(1, 2)), nil, api.ErrNone},
		{"fewer holes than needs", sheet(list(1, 1), list(1, 2)), nil, api.ErrNone},
		{"a clash, although the holes are fewer", sheet(list(3, 0, 0), list(3, 3)), list(0), api.OK},
		{"rows that are not neighbours", sheet(list(2, 0, 2, 0), list(3, 1)), list(0, 2), api.OK},
		{"all rows", sheet(list(1, 1), list(1, 0)), list(0, 1), api.OK},
		{"the greatest numbers", sheet(same(20, 20), same(20, 19)), nil, api.OK},
		{"all holes", sheet(same(20, 20), same(20, 20)), nil, api.ErrNone},
	} {
		rows, e := torn.Clash(c.x)
		if e != c.e || e != api.OK && len(rows) > 0 || c.only != nil && !slices.Equal(rows, c.only) {
			t.Errorf("%s: %v, %d, want %v, %d", c.name, rows, e, c.only, c.e)
		}
		if e == api.OK && (!isClash(c.x, rows) || torn.Verify(c.x, rows) != api.OK) {
			t.Errorf("%s: %v is no clash", c.name, rows)
		}
	}
}

// P11.4: Verify returns its errors in their order.
func TestVerify(t *testing.T) {
	for _, c := range []struct {
		name string
		x    torn.Sheet
		rows []int
		want api.Errno
	}{
		{"example", sheetY(), list(0), api.ErrProof},
		{"both rows", sheetY(), list(0, 1), api.OK},
		{"all rows", sheetY(), list(0, 1, 2), api.ErrProof},
		{"a possible sheet", sheetX(), list(0, 1, 2), api.ErrProof},
		{"just as many", sheet(list(2), list(1, 1)), list(0), api.ErrProof},
		{"one more", sheet(list(2), list(1, 0)), list(0), api.OK},
		{"another sum", sheet(list(2), list(5)), list(0), api.OK},
		{"a key has no more holes than rows are listed", sheet(list(2, 2, 0), list(3, 1)), list(0, 1), api.OK},
		{"nil", sheetY(), nil, api.ErrEmpty},
		{"empty", sheetY(), list(), api.ErrEmpty},
		{"no row", sheetY(), list(3), api.ErrNone},
		{"no row before 0", sheetY(), list(-1), api.ErrNone},
		{"the last row", sheetY(), list(2), api.ErrProof},
		{"no row, although there is such a key", sheet(list(1), list(0, 0)), list(1), api.ErrNone},
		{"no row before the wrong order", sheetY(), list(3, 1, 0), api.ErrNone},
		{"no row, and in the wrong order", sheetY(), list(1, -1), api.ErrNone},
		{"the wrong order before what is no row", sheetY(), list(1, 0, 3), api.ErrOrder},
		{"twice", sheetY(), list(0, 0), api.ErrOrder},
		{"twice, in a list that would be a proof", sheetY(), list(0, 1, 1), api.ErrOrder},
		{"the greatest number", sheetY(), list(math.MaxInt), api.ErrNone},
		{"the least number", sheetY(), list(math.MinInt), api.ErrNone},
	} {
		if e := torn.Verify(c.x, c.rows); e != c.want {
			t.Errorf("%s: %d, want %d", c.name, e, c.want)
		}
	}
}

// P11.6: Count returns how many fillings fit.
func TestCount(t *testing.T) {
	for _, c := range []struct {
		name string
		x    torn.Sheet
		want int
		e    api.Errno
	}{
		{"X", sheetX(), 5, api.OK},
		{"Y", sheetY(), 0, api.OK},
		{"Z", sheetZ(), 1, api.OK},
		{"another sum", sheet(list(1, 1), list(1, 2)), 0, api.OK},
		{"another sum, more holes", sheet(list(2, 1), list(1, 1)), 0, api.OK},
		{"one gap", sheet(list(0), list(0)), 1, api.OK},
		{"more than there is room for", sheet(list(20), list(20)), 0, api.OK},
		{"the greatest numbers", sheet(same(20, 6), same(20, 6)), 0, api.OK},
		{"all holes", sheet(same(6, 6), same(6, 6)), 1, api.OK},
		{"one hole in each", sheet(same(1, 6), same(1, 6)), 720, api.OK},
		{"two", sheet(same(2, 6), same(2, 6)), 67950, api.OK},
		{"three", sheet(same(3, 6), same(3, 6)), 297200, api.OK},
		{"four", sheet(same(4, 6), same(4, 6)), 67950, api.OK},
		{"two of four", sheet(same(2, 4), same(2, 4)), 90, api.OK},
		{"six rows, one key", sheet(list(1, 0, 1, 1, 0, 0), list(3)), 1, api.OK},
		{"six rows, two keys", sheet(same(1, 6), list(4, 2)), 15, api.OK},
		{"seven rows", sheet(same(0, 7), list(0)), 0, api.ErrOver},
		{"seven keys", sheet(list(0), same(0, 7)), 0, api.ErrOver},
	} {
		if n, e := torn.Count(c.x); n != c.want || e != c.e {
			t.Errorf("%s: %d, %d, want %d, %d", c.name, n, e, c.want, c.e)
		}
	}
}

// P11.6: Share returns the part of the fillings with a hole at a place, or its errors in their order.
func TestShare(t *testing.T) {
	for _, c := range []struct {
		name     string
		x        torn.Sheet
		row, key int
		want     api.Ratio
		e        api.Errno
	}{
		{"X", sheetX(), 0, 0, part(4, 5), api.OK},
		{"another place of X", sheetX(), 1, 2, part(1, 5), api.OK},
		{"Z, full", sheetZ(), 1, 0, part(1, 1), api.OK},
		{"Z, empty", sheetZ(), 1, 1, part(0, 1), api.OK},
		{"one gap", sheet(list(0), list(0)), 0, 0, part(0, 1), api.OK},
		{"one hole in each", sheet(same(1, 6), same(1, 6)), 5, 5, part(1, 6), api.OK},
		{"three in each", sheet(same(3, 6), same(3, 6)), 2, 4, part(1, 2), api.OK},
		{"in lowest terms", sheet(list(2, 2), list(1, 1, 1, 1)), 1, 3, part(1, 2), api.OK},
		{"Y", sheetY(), 0, 0, part(0, 0), api.ErrClash},
		{"another sum", sheet(list(1, 1), list(1, 2)), 0, 0, part(0, 0), api.ErrSum},
		{"another sum and a clash", sheet(list(2), list(1)), 0, 0, part(0, 0), api.ErrSum},
		{"no row", sheetX(), 3, 0, part(0, 0), api.ErrNone},
		{"no key", sheetX(), 0, 3, part(0, 0), api.ErrNone},
		{"no row before 0", sheetX(), -1, 0, part(0, 0), api.ErrNone},
		{"no key before 0", sheetX(), 0, -1, part(0, 0), api.ErrNone},
		{"a key that is no row", sheet(list(1), list(0, 1)), 1, 0, part(0, 0), api.ErrNone},
		{"a row that is no key", sheet(list(0, 1), list(1)), 0, 1, part(0, 0), api.ErrNone},
		{"the least number", sheetX(), math.MinInt, 0, part(0, 0), api.ErrNone},
		{"the greatest number", sheetX(), 0, math.MaxInt, part(0, 0), api.ErrNone},
		{"no row of a sheet with a clash", sheetY(), 3, 0, part(0, 0), api.ErrNone},
		{"no key of a sheet with another sum", sheet(list(1, 1), list(1, 2)), 0, 2, part(0, 0), api.ErrNone},
		{"seven rows", sheet(same(0, 7), list(0)), 7, 0, part(0, 0), api.ErrOver},
		{"seven keys", sheet(list(1), same(0, 7)), 0, 7, part(0, 0), api.ErrOver},
	} {
		if s, e := torn.Share(c.x, c.row, c.key); s != c.want || e != c.e {
			t.Errorf("%s: %v, %d, want %v, %d", c.name, s, e, c.want, c.e)
		}
	}
}
