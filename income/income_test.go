package income_test

import (
	"math"
	"math/big"
	"math/rand"
	"slices"
	"testing"

	"annuity/api"
	"annuity/income"
)

const (
	most  = api.MaxAmount
	heads = 30
)

// usual is a table as one may be in use: of a family of one head 15060.00 a year, and 5380.00 more of each further head.
var usual = [...]int64{1506000, 2044000, 2582000, 3120000, 3658000, 4196000, 4734000, 5272000}

// rising is a table of so many numbers, each by one step more than the one ahead.
func rising(first, step int64, many int) []int64 {
	l := make([]int64, many)
	for i := range l {
		l[i] = first + step*int64(i)
	}
	return l
}

// with is a table with another number in one place.
func with(poor []int64, i int, n int64) []int64 {
	l := slices.Clone(poor)
	l[i] = n
	return l
}

func modelGood(poor []int64) bool {
	for i, n := range poor {
		if n < 0 || n > most || i > 0 && n < poor[i-1] {
			return false
		}
	}
	return 1 <= len(poor) && len(poor) <= heads
}

func modelNumber(poor []int64, family int) int64 {
	n := poor[0]
	for i, m := range poor {
		if i < family {
			n = m
		}
	}
	return n
}

// modelLine goes by numbers of any length.
func modelLine(poor []int64, family int) (int64, api.Errno) {
	if !modelGood(poor) || family < 1 || family > heads {
		return 0, api.ErrArg
	}
	n := new(big.Int).Mul(big.NewInt(modelNumber(poor, family)), big.NewInt(3))
	return n.Add(n, big.NewInt(1)).Quo(n, big.NewInt(2)).Int64(), api.OK
}

func modelFree(poor []int64, family int, earned int64) (int64, api.Errno) {
	line, e := modelLine(poor, family)
	if e != api.OK || earned < 0 || earned > most {
		return 0, api.ErrArg
	}
	if earned < line {
		return 0, api.OK
	}
	return earned - line, api.OK
}

// modelAsk rounds by what is left of the quotient: a half goes to the even one.
func modelAsk(poor []int64, family int, earned int64) (int64, api.Errno) {
	free, e := modelFree(poor, family, earned)
	if e != api.OK {
		return 0, e
	}
	q, r := new(big.Int).QuoRem(big.NewInt(free), big.NewInt(120), new(big.Int))
	if r.Int64() > 60 || r.Int64() == 60 && q.Bit(0) == 1 {
		q.Add(q, big.NewInt(1))
	}
	return q.Int64(), api.OK
}

type call func(poor []int64, family int, earned int64) (int64, api.Errno)

// ofAny takes an income too, which no line hangs on.
func ofAny(line func(poor []int64, family int) (int64, api.Errno)) call {
	return func(poor []int64, family int, _ int64) (int64, api.Errno) { return line(poor, family) }
}

func hold(t *testing.T, poor []int64, family int, earned int64) {
	t.Helper()
	calls := []struct {
		name        string
		call, model call
	}{
		{"Line", ofAny(income.Line), ofAny(modelLine)},
		{"Free", income.Free, modelFree},
		{"Ask", income.Ask, modelAsk},
	}
	for _, c := range calls {
		want, wantE := c.model(poor, family, earned)
		if n, e := c.call(poor, family, earned); n != want || e != wantE {
			t.Fatalf("%s of %d, family %d, income %d: %d, %v; want %d, %v", c.name, poor, family, earned, n, e, want, wantE)
		}
	}
}

func refused(t *testing.T, poor []int64, family int, earned int64) {
	t.Helper()
	if n, e := income.Free(poor, family, earned); n != 0 || e != api.ErrArg {
		t.Errorf("Free(%d, %d, %d) = %d, %v; want 0, %v", poor, family, earned, n, e, api.ErrArg)
	}
	if n, e := income.Ask(poor, family, earned); n != 0 || e != api.ErrArg {
		t.Errorf("Ask(%d, %d, %d) = %d, %v; want 0, %v", poor, family, earned, n, e, api.ErrArg)
	}
}

func refusedLine(t *testing.T, poor []int64, family int) {
	t.Helper()
	if n, e := income.Line(poor, family); n != 0 || e != api.ErrArg {
		t.Errorf("Line(%d, %d) = %d, %v; want 0, %v", poor, family, n, e, api.ErrArg)
	}
}

// wrongTables are no tables, by what is amiss in them.
func wrongTables() map[string][]int64 {
	full := rising(0, 1000, heads)
	return map[string][]int64{
		"nil":                           nil,
		"empty":                         {},
		"empty, with room":              make([]int64, 0, 5),
		"one number too many":           rising(0, 1000, heads+1),
		"one number too many, as great": rising(1000, 0, heads+1),
		"far too many":                  rising(0, 1, 10000),
		"one below 0":                   {-1},
		"one far below 0":               {math.MinInt64},
		"one too great":                 {most + 1},
		"one far too great":             {math.MaxInt64},
		"the first below 0":             with(full, 0, -1),
		"the last too great":            with(full, heads-1, most+1),
		"the last far too great":        {0, math.MaxInt64},
		"all below 0":                   {-3, -2, -1},
		"below 0, and too great":        {-1, most + 1},
		"falling by one":                {1000, 999},
		"falling at the end":            with(full, heads-1, 27999),
		"falling at the beginning":      with(full, 0, 1001),
		"falling to below 0":            {0, -1},
		"falling from too great":        {most + 1, most},
		"falling in the middle":         with(full, 15, 13999),
		"too great in the middle":       with(full, 15, most+1),
		"below 0 in the middle":         with(full, 15, -1),
		"falling all the way":           {3000, 2000, 1000},
		"falling, then rising above":    {2000, 1000, 3000},
		"falling to 0":                  {1000, 2000, 0},
	}
}

func goodTables() map[string][]int64 {
	return map[string][]int64{
		"one":                      {1000},
		"one 0":                    {0},
		"the greatest one":         {most},
		"from 0 to the greatest":   {0, most},
		"two as great":             {1000, 1000},
		"rising":                   {1000, 1001, 2000},
		"as great, then rising":    {1000, 1000, 1001},
		"rising, then as great":    {999, 1000, 1000},
		"as many as there may be":  rising(0, 1000, heads),
		"one less":                 rising(0, 1000, heads-1),
		"as many, all 0":           make([]int64, heads),
		"as many, all the highest": rising(most, 0, heads),
		"usual":                    usual[:],
	}
}

// P17.1

func TestGood(t *testing.T) {
	for name, poor := range goodTables() {
		if !income.Good(poor) {
			t.Errorf("%s: Good(%d) = false", name, poor)
		}
	}
	for name, poor := range wrongTables() {
		if income.Good(poor) {
			t.Errorf("%s: Good(%d) = true", name, poor)
		}
	}
}

// TestGoodOfAllSmall tries all tables of up to five numbers out of some, at both bounds.
func TestGoodOfAllSmall(t *testing.T) {
	few := []int64{math.MinInt64, -1, 0, 1, most - 1, most, most + 1, math.MaxInt64}
	var try func(poor []int64)
	try = func(poor []int64) {
		if got, want := income.Good(poor), modelGood(poor); got != want {
			t.Fatalf("Good(%d) = %v; want %v", poor, got, want)
		}
		if len(poor) == 5 {
			return
		}
		for _, n := range few {
			try(append(slices.Clone(poor), n))
		}
	}
	try(nil)
}

func TestLineByCases(t *testing.T) {
	full := rising(1000, 10, heads)
	cases := []struct {
		name   string
		poor   []int64
		family int
		want   int64
	}{
		{"a greater family than the table has", []int64{1000}, 3, 1500},
		{"the only one", []int64{1000}, 1, 1500},
		{"the greatest family, of one number", []int64{1000}, 30, 1500},
		{"nothing", []int64{0}, 1, 0},
		{"a cent, up", []int64{1}, 1, 2},      // 1.5
		{"three cents, up", []int64{3}, 1, 5}, // 4.5
		{"two cents", []int64{2}, 1, 3},
		{"odd, up", []int64{1001}, 1, 1502}, // 1501.5
		{"the greatest number", []int64{most}, 1, 1500000000},
		{"the greatest odd number, up", []int64{most - 1}, 1, 1499999999}, // 1499999998.5
		{"the first of all", full, 1, 1500},
		{"the second of all", full, 2, 1515},
		{"the last but one", full, 29, 1920},
		{"the last of all", full, 30, 1935},
		{"the last of two", []int64{1000, 2000}, 2, 3000},
		{"the first of two", []int64{1000, 2000}, 1, 1500},
		{"behind the last of two", []int64{1000, 2000}, 3, 3000},
		{"one head, usual", usual[:], 1, 2259000},
		{"four heads, usual", usual[:], 4, 4680000},
		{"eight heads, usual", usual[:], 8, 7908000},
		{"nine heads, usual", usual[:], 9, 7908000},
	}
	for _, c := range cases {
		if n, e := income.Line(c.poor, c.family); n != c.want || e != api.OK {
			t.Errorf("%s: Line(%d, %d) = %d, %v; want %d, %v", c.name, c.poor, c.family, n, e, c.want, api.OK)
		}
	}
}

func TestFreeByCases(t *testing.T) {
	cases := []struct {
		name   string
		poor   []int64
		family int
		earned int64
		want   int64
	}{
		{"above the line", []int64{1000}, 1, 13500, 12000},
		{"on the line", []int64{1000}, 1, 1500, 0},
		{"a cent above the line", []int64{1000}, 1, 1501, 1},
		{"a cent below the line", []int64{1000}, 1, 1499, 0},
		{"no income", []int64{1000}, 1, 0, 0},
		{"no poverty", []int64{0}, 1, 12345, 12345},
		{"neither", []int64{0}, 1, 0, 0},
		{"on an odd number's line", []int64{1001}, 1, 1502, 0},
		{"above an odd number's line", []int64{1001}, 1, 1503, 1},
		{"below the greatest line", []int64{most}, 1, most, 0},
		{"the greatest income, all of it", []int64{0}, 30, most, most},
		{"the greatest income", []int64{1000}, 30, most, 999998500},
		{"of a greater family", []int64{1000, 2000}, 2, 5000, 2000},
		{"of a greater family than it has", []int64{1000, 2000}, 7, 5000, 2000},
		{"usual", usual[:], 3, 6000000, 2127000},
	}
	for _, c := range cases {
		if n, e := income.Free(c.poor, c.family, c.earned); n != c.want || e != api.OK {
			t.Errorf("%s: Free(%d, %d, %d) = %d, %v; want %d, %v", c.name, c.poor, c.family, c.earned, n, e, c.want, api.OK)
		}
	}
}

func TestAskByCases(t *testing.T) {
	none := []int64{0}
	cases := []struct {
		name   string
		poor   []int64
		family int
		earned int64
		want   int64
	}{
		{"a month's tenth", []int64{1000}, 1, 13500, 100},
		{"on the line", []int64{1000}, 1, 1500, 0},
		{"below the line", []int64{1000}, 1, 1499, 0},
		{"no income", []int64{1000}, 1, 0, 0},
		{"less than a half", none, 1, 59, 0},
		{"a half of a cent, to 0", none, 1, 60, 0},
		{"more than a half", none, 1, 61, 1},
		{"a cent", none, 1, 120, 1},
		{"a cent, and less than a half", none, 1, 179, 1},
		{"a cent and a half, to 2", none, 1, 180, 2},
		{"two and a half, to 2", none, 1, 300, 2},
		{"two, and more than a half", none, 1, 301, 3},
		{"three and a half, to 4", none, 1, 420, 4},
		{"a half above the line", []int64{1000}, 1, 1560, 0},
		{"a cent and a half above the line", []int64{1000}, 1, 1680, 2},
		{"above an odd number's line", []int64{1001}, 1, 1562, 0}, // 60 is free
		{"the greatest income", none, 30, most, 8333333},          // 8333333.33
		{"the greatest income below the greatest line", []int64{most}, 30, most, 0},
		{"of a greater family", []int64{1000, 9000}, 2, 13620, 1},
		{"of a greater family than it has", []int64{1000, 9000}, 30, 13620, 1},
		{"usual", usual[:], 3, 6000000, 17725},
		{"usual, alone", usual[:], 1, 6000000, 31175},
	}
	for _, c := range cases {
		if n, e := income.Ask(c.poor, c.family, c.earned); n != c.want || e != api.OK {
			t.Errorf("%s: Ask(%d, %d, %d) = %d, %v; want %d, %v", c.name, c.poor, c.family, c.earned, n, e, c.want, api.OK)
		}
	}
}

func TestWrongTables(t *testing.T) {
	for _, poor := range wrongTables() {
		for _, family := range []int{1, 2, 15, 16, 29, 30, 0, 31} {
			refusedLine(t, poor, family)
			for _, earned := range []int64{0, 1, 100000, most, -1, most + 1} {
				refused(t, poor, family, earned)
			}
		}
	}
}

func TestWrongFamilies(t *testing.T) {
	for _, poor := range goodTables() {
		for _, family := range []int{math.MinInt, -31, -30, -1, 0, 31, 32, 100, 1 << 32, 1<<32 + 1, math.MaxInt} {
			refusedLine(t, poor, family)
			for _, earned := range []int64{0, 1, 100000, most, -1, most + 1} {
				refused(t, poor, family, earned)
			}
		}
	}
}

func TestWrongIncomes(t *testing.T) {
	for _, poor := range goodTables() {
		for _, family := range []int{1, 2, 29, 30} {
			for _, earned := range []int64{math.MinInt64, -most, -1000, -1, most + 1, 2 * most, math.MaxInt64} {
				refused(t, poor, family, earned)
			}
		}
	}
}

// TestBoundsAgainstModel goes round all bounds, of the family, of the income, and of the line itself.
func TestBoundsAgainstModel(t *testing.T) {
	for _, poor := range goodTables() {
		for family := -2; family <= heads+2; family++ {
			earned := []int64{-1, 0, 1, 59, 60, 61, most - 1, most, most + 1}
			if line, e := modelLine(poor, family); e == api.OK {
				for n := line - 2; n <= line+500; n++ {
					earned = append(earned, n)
				}
			}
			for _, n := range earned {
				hold(t, poor, family, n)
			}
		}
	}
}

// randomTable is mostly a table, of numbers of all sizes.
func randomTable(r *rand.Rand) []int64 {
	top := int64(1) << r.Intn(31)
	poor := make([]int64, r.Intn(heads+2))
	for i := range poor {
		poor[i] = min(r.Int63n(top), most)
	}
	slices.Sort(poor)
	if len(poor) > 0 && r.Intn(10) == 0 {
		poor[r.Intn(len(poor))] = r.Int63n(2*top) - top/2
	}
	return poor
}

func TestManyAgainstModel(t *testing.T) {
	r := rand.New(rand.NewSource(17))
	for range 100000 {
		poor := randomTable(r)
		if got, want := income.Good(poor), modelGood(poor); got != want {
			t.Fatalf("Good(%d) = %v; want %v", poor, got, want)
		}
		hold(t, poor, r.Intn(heads+3)-1, r.Int63n(int64(1)<<r.Intn(32))-r.Int63n(2))
	}
}

// TestTableStays: neither the table nor what stands behind it is changed, and neither has a say behind its end.
func TestTableStays(t *testing.T) {
	room := rising(1000, 1000, 5)
	was := slices.Clone(room)
	poor := room[1:3]
	if n, e := income.Line(poor, 1); n != 3000 || e != api.OK {
		t.Errorf("Line(%d, 1) = %d, %v; want 3000, %v", poor, n, e, api.OK)
	}
	if n, e := income.Line(poor, 4); n != 4500 || e != api.OK {
		t.Errorf("Line(%d, 4) = %d, %v; want 4500, %v", poor, n, e, api.OK)
	}
	if n, e := income.Free(poor, 30, 5000); n != 500 || e != api.OK {
		t.Errorf("Free(%d, 30, 5000) = %d, %v; want 500, %v", poor, n, e, api.OK)
	}
	if n, e := income.Ask(poor, 30, 5000); n != 4 || e != api.OK {
		t.Errorf("Ask(%d, 30, 5000) = %d, %v; want 4, %v", poor, n, e, api.OK)
	}
	if !income.Good(poor) || !slices.Equal(room, was) {
		t.Errorf("the table is %d now; it was %d", room, was)
	}
	room[2] = 0
	if income.Good(poor) {
		t.Error("a table that was good is good once it falls")
	}
}

// P17.2

func TestWhoHasMoreIsAskedNoLess(t *testing.T) {
	for _, poor := range [][]int64{{0}, {1000}, {1001}, {999, 1001, 1500}} {
		for _, family := range []int{1, 2, 3, 30} {
			last := int64(0)
			for earned := int64(0); earned < 6000; earned++ {
				n, e := income.Ask(poor, family, earned)
				if e != api.OK || n < last {
					t.Fatalf("Ask(%d, %d, %d) = %d, %v; of a cent less it was %d", poor, family, earned, n, e, last)
				}
				last = n
			}
		}
	}
}

func TestGreaterFamilyIsAskedNoMore(t *testing.T) {
	r := rand.New(rand.NewSource(172))
	for range 3000 {
		poor := randomTable(r)
		if !income.Good(poor) {
			continue
		}
		earned := r.Int63n(most + 1)
		last := int64(most)
		for family := 1; family <= heads; family++ {
			n, e := income.Ask(poor, family, earned)
			if e != api.OK || n > last {
				t.Fatalf("Ask(%d, %d, %d) = %d, %v; of one head less it was %d", poor, family, earned, n, e, last)
			}
			last = n
		}
	}
}

func TestMoreIncomeOrLessFamilyAsksNoLess(t *testing.T) {
	r := rand.New(rand.NewSource(173))
	for range 20000 {
		poor := randomTable(r)
		if !income.Good(poor) {
			continue
		}
		family, earned := 1+r.Intn(heads), r.Int63n(most+1)
		n, e := income.Ask(poor, family, earned)
		more, eMore := income.Ask(poor, 1+r.Intn(family), earned+r.Int63n(most-earned+1))
		if e != api.OK || eMore != api.OK || more < n {
			t.Fatalf("Ask(%d, %d, %d) = %d, %v; who has more, in a smaller family: %d, %v", poor, family, earned, n, e, more, eMore)
		}
	}
}

func TestNotAboveTheLineNothing(t *testing.T) {
	r := rand.New(rand.NewSource(174))
	for range 20000 {
		poor, family := randomTable(r), 1+r.Intn(heads)
		line, e := income.Line(poor, family)
		if e != api.OK {
			continue
		}
		line = min(line, most)
		for _, earned := range []int64{0, r.Int63n(line + 1), max(line-1, 0), line} {
			free, e := income.Free(poor, family, earned)
			n, eAsk := income.Ask(poor, family, earned)
			if free != 0 || n != 0 || e != api.OK || eAsk != api.OK {
				t.Fatalf("of %d, not above the line %d, is free %d, %v, and asked %d, %v", earned, line, free, e, n, eAsk)
			}
		}
	}
}
