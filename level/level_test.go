package level_test

import (
	"math"
	"math/big"
	"math/rand"
	"testing"

	"annuity/api"
	"annuity/level"
)

const (
	most   = api.MaxMoney
	topPpm = api.MaxPpm
	// brim is the greatest balance that still is money behind a month's interest at the highest rate: a thirteenth below it.
	brim = 9230769230769
)

// modelMonth is a month by numbers of any length; false, if the balance is no money on the way.
func modelMonth(b, pay int64, ppm int) (int64, bool) {
	n := new(big.Int).Mul(big.NewInt(b), big.NewInt(int64(ppm)))
	n.Add(n, big.NewInt(12000000-1)).Quo(n, big.NewInt(12000000)).Add(n, big.NewInt(b))
	if n.Cmp(big.NewInt(most)) > 0 {
		return 0, false
	}
	n.Sub(n, big.NewInt(pay))
	if n.Sign() < 0 {
		return 0, true
	}
	return n.Int64(), true
}

// modelTable is the balances behind each month, up to the one that is no money.
func modelTable(b, pay int64, ppm, months int) ([]int64, bool) {
	var l []int64
	for i := 0; i < months; i++ {
		n, ok := modelMonth(b, pay, ppm)
		if !ok {
			return nil, false
		}
		b = n
		l = append(l, b)
	}
	return l, true
}

func modelLeft(b, pay int64, ppm, months int) (int64, bool) {
	l, ok := modelTable(b, pay, ppm, months)
	if !ok {
		return 0, false
	}
	return append([]int64{b}, l...)[len(l)], true
}

// clears asks the model whether a payment leaves nothing.
func clears(b, pay int64, ppm, months int) bool {
	n, ok := modelLeft(b, pay, ppm, months)
	return ok && n == 0
}

// holdMonth, holdLeft, holdTable and holdOf hold an answer against the model.
func holdMonth(t *testing.T, b, pay int64, ppm int) {
	t.Helper()
	want, ok := modelMonth(b, pay, ppm)
	wantE := api.OK
	if !ok {
		want, wantE = 0, api.ErrRange
	}
	if n, e := level.Month(b, pay, ppm); n != want || e != wantE {
		t.Fatalf("Month(%d, %d, %d) = %d, %v; want %d, %v", b, pay, ppm, n, e, want, wantE)
	}
}

func holdLeft(t *testing.T, b, pay int64, ppm, months int) {
	t.Helper()
	want, ok := modelLeft(b, pay, ppm, months)
	wantE := api.OK
	if !ok {
		want, wantE = 0, api.ErrRange
	}
	if n, e := level.Left(b, pay, ppm, months); n != want || e != wantE {
		t.Fatalf("Left(%d, %d, %d, %d) = %d, %v; want %d, %v", b, pay, ppm, months, n, e, want, wantE)
	}
}

func holdTable(t *testing.T, b, pay int64, ppm, months int) {
	t.Helper()
	want, ok := modelTable(b, pay, ppm, months)
	wantE := api.OK
	if !ok {
		want, wantE = nil, api.ErrRange
	}
	l, e := level.Table(b, pay, ppm, months)
	if e != wantE || !same(l, want) {
		t.Fatalf("Table(%d, %d, %d, %d) = %v, %v; want %v, %v", b, pay, ppm, months, l, e, want, wantE)
	}
}

func holdOf(t *testing.T, b int64, ppm, months int) {
	t.Helper()
	n, e := level.Of(b, ppm, months)
	if _, ok := modelMonth(b, 0, ppm); !ok {
		if n != 0 || e != api.ErrRange {
			t.Fatalf("Of(%d, %d, %d) = %d, %v; want 0, %v", b, ppm, months, n, e, api.ErrRange)
		}
		return
	}
	if e != api.OK || n < 0 || n > most || !clears(b, n, ppm, months) {
		t.Fatalf("Of(%d, %d, %d) = %d, %v: that doesn't pay it off", b, ppm, months, n, e)
	}
	if n > 0 && clears(b, n-1, ppm, months) {
		t.Fatalf("Of(%d, %d, %d) = %d: a cent less pays it off, too", b, ppm, months, n)
	}
}

func holdAll(t *testing.T, b, pay int64, ppm, months int) {
	t.Helper()
	holdMonth(t, b, pay, ppm)
	holdLeft(t, b, pay, ppm, months)
	holdTable(t, b, pay, ppm, months)
	if months > 0 {
		holdOf(t, b, ppm, months)
	}
}

func same(a, b []int64) bool {
	if len(a) != len(b) {
		return false
	}
	for i := range a {
		if a[i] != b[i] {
			return false
		}
	}
	return true
}

// P15.1

func TestMonthByCases(t *testing.T) {
	cases := []struct {
		name   string
		b, pay int64
		ppm    int
		want   int64
		e      api.Errno
	}{
		{"a usual month", 1000000, 10607, 50000, 993560, api.OK}, // 4166.67 cents of interest, up
		{"interest that is whole", 12000, 0, 1000, 12001, api.OK},
		{"interest a little above whole", 12001, 0, 1000, 12003, api.OK},
		{"the least interest", 1, 0, 1, 2, api.OK},
		{"no rate", 1200, 100, 0, 1100, api.OK},
		{"no payment", 1200, 0, 0, 1200, api.OK},
		{"the highest rate", 12, 0, topPpm, 13, api.OK},
		{"paid off just", 12, 13, topPpm, 0, api.OK},
		{"a cent is left", 12, 12, topPpm, 1, api.OK},
		{"a payment that is more", 12, 14, topPpm, 0, api.OK},
		{"the greatest payment", 12, most, topPpm, 0, api.OK},
		{"nothing owed", 0, 0, topPpm, 0, api.OK},
		{"nothing owed, and paid", 0, 5, topPpm, 0, api.OK},
		{"the greatest balance, no rate", most, 0, 0, most, api.OK},
		{"the greatest balance, all paid", most, most, 0, 0, api.OK},
		{"the least that goes beyond", most, 0, 1, 0, api.ErrRange},
		{"beyond on the way, though all is paid", most, most, 1, 0, api.ErrRange},
		{"up to the brim", brim, 0, topPpm, most, api.OK},
		{"up to the brim, all paid", brim, most, topPpm, 0, api.OK},
		{"above the brim", brim + 1, most, topPpm, 0, api.ErrRange},
	}
	for _, c := range cases {
		if n, e := level.Month(c.b, c.pay, c.ppm); n != c.want || e != c.e {
			t.Errorf("%s: Month(%d, %d, %d) = %d, %v; want %d, %v", c.name, c.b, c.pay, c.ppm, n, e, c.want, c.e)
		}
	}
}

func TestLeftAndTableByCases(t *testing.T) {
	cases := []struct {
		name   string
		b, pay int64
		ppm    int
		want   []int64
		e      api.Errno
	}{
		{"no months", 1000, 500, 120000, nil, api.OK},
		{"two are left by 507", 1000, 507, 120000, []int64{503, 2}, api.OK},
		{"nothing is left by 508", 1000, 508, 120000, []int64{502, 0}, api.OK},
		{"once paid off it stays so", 100, 60, 0, []int64{40, 0, 0, 0}, api.OK},
		{"nothing owed", 0, 0, topPpm, []int64{0, 0}, api.OK},
		{"it grows", 1200, 0, topPpm, []int64{1300, 1409, 1527}, api.OK},
		{"it stands still", 1200, 100, topPpm, []int64{1200, 1200}, api.OK},
	}
	for _, c := range cases {
		l, e := level.Table(c.b, c.pay, c.ppm, len(c.want))
		if e != c.e || !same(l, c.want) {
			t.Errorf("%s: Table = %v, %v; want %v, %v", c.name, l, e, c.want, c.e)
		}
		last := c.b
		if len(c.want) > 0 {
			last = c.want[len(c.want)-1]
		}
		if n, e := level.Left(c.b, c.pay, c.ppm, len(c.want)); n != last || e != c.e {
			t.Errorf("%s: Left = %d, %v; want %d, %v", c.name, n, e, last, c.e)
		}
	}
}

func TestTooGreatOnTheWay(t *testing.T) {
	// The first month is up to the brim, the second one goes beyond: no table of months before it is told.
	for months, e := range []api.Errno{api.OK, api.OK, api.ErrRange, api.ErrRange} {
		want, wants := int64(0), months
		if e == api.OK {
			want = []int64{brim, most}[months]
		} else {
			wants = 0
		}
		if n, got := level.Left(brim, 0, topPpm, months); n != want || got != e {
			t.Errorf("Left, %d months: %d, %v; want %d, %v", months, n, got, want, e)
		}
		if l, got := level.Table(brim, 0, topPpm, months); len(l) != wants || got != e {
			t.Errorf("Table, %d months: %v, %v; want %d of them, %v", months, l, got, wants, e)
		}
	}
	// No month goes by, so nothing is beyond.
	if n, e := level.Left(most, 0, topPpm, 0); n != most || e != api.OK {
		t.Errorf("Left of no month = %d, %v; want %d, OK", n, e, int64(most))
	}
}

func TestWrongArguments(t *testing.T) {
	const b, pay, ppm, months = 1000, 100, 50000, 12
	for _, n := range []int64{math.MinInt64, -most, -1, most + 1, math.MaxInt64} {
		refused(t, n, pay, ppm, months)
		refusedPay(t, b, n, ppm, months)
	}
	for _, n := range []int{math.MinInt, -1, topPpm + 1, math.MaxInt} {
		refused(t, b, pay, n, months)
	}
	for _, n := range []int{math.MinInt, -1, 361, math.MaxInt} {
		refusedMonths(t, b, pay, ppm, n)
	}
	if n, e := level.Of(b, ppm, 0); n != 0 || e != api.ErrArg {
		t.Errorf("Of no months = %d, %v; want 0, %v", n, e, api.ErrArg)
	}
	if n, e := level.Of(0, 0, 0); n != 0 || e != api.ErrArg {
		t.Errorf("Of nothing in no months = %d, %v; want 0, %v", n, e, api.ErrArg)
	}
}

// TestArgumentsFirst: a wrong argument is told ahead of what goes beyond.
func TestArgumentsFirst(t *testing.T) {
	refusedPay(t, most, -1, topPpm, 1)
	refusedMonths(t, most, 0, topPpm, 361)
	if _, e := level.Of(most, topPpm, 1); e != api.ErrRange {
		t.Errorf("Of = %v; want %v", e, api.ErrRange)
	}
}

// refused: all four refuse it.
func refused(t *testing.T, b, pay int64, ppm, months int) {
	t.Helper()
	refusedPay(t, b, pay, ppm, months)
	if n, e := level.Of(b, ppm, months); n != 0 || e != api.ErrArg {
		t.Errorf("Of(%d, %d, %d) = %d, %v; want 0, %v", b, ppm, months, n, e, api.ErrArg)
	}
}

// refusedPay: the three with a payment refuse it.
func refusedPay(t *testing.T, b, pay int64, ppm, months int) {
	t.Helper()
	if n, e := level.Month(b, pay, ppm); n != 0 || e != api.ErrArg {
		t.Errorf("Month(%d, %d, %d) = %d, %v; want 0, %v", b, pay, ppm, n, e, api.ErrArg)
	}
	if n, e := level.Left(b, pay, ppm, months); n != 0 || e != api.ErrArg {
		t.Errorf("Left(%d, %d, %d, %d) = %d, %v; want 0, %v", b, pay, ppm, months, n, e, api.ErrArg)
	}
	if l, e := level.Table(b, pay, ppm, months); len(l) != 0 || e != api.ErrArg {
		t.Errorf("Table(%d, %d, %d, %d) = %v, %v; want none, %v", b, pay, ppm, months, l, e, api.ErrArg)
	}
}

// refusedMonths: the three with months refuse them.
func refusedMonths(t *testing.T, b, pay int64, ppm, months int) {
	t.Helper()
	if n, e := level.Left(b, pay, ppm, months); n != 0 || e != api.ErrArg {
		t.Errorf("Left(%d, %d, %d, %d) = %d, %v; want 0, %v", b, pay, ppm, months, n, e, api.ErrArg)
	}
	if l, e := level.Table(b, pay, ppm, months); len(l) != 0 || e != api.ErrArg {
		t.Errorf("Table(%d, %d, %d, %d) = %v, %v; want none, %v", b, pay, ppm, months, l, e, api.ErrArg)
	}
	if n, e := level.Of(b, ppm, months); n != 0 || e != api.ErrArg {
		t.Errorf("Of(%d, %d, %d) = %d, %v; want 0, %v", b, ppm, months, n, e, api.ErrArg)
	}
}

// P15.1, P15.2: all calls against the model, at all edges.
func TestEdgesAgainstModel(t *testing.T) {
	balances := []int64{0, 1, 2, 11, 12, 13, 1200, 999999, 1000000, 1000001, brim - 1, brim, brim + 1, most - 1, most}
	for _, b := range balances {
		for _, ppm := range []int{0, 1, 12, 50000, 250000, topPpm - 1, topPpm} {
			for _, months := range []int{0, 1, 2, 12, 120, 300, 359, 360} {
				for _, pay := range []int64{0, 1, b / 12, b / 2, b, most} {
					holdMonth(t, b, pay, ppm)
					holdLeft(t, b, pay, ppm, months)
					holdTable(t, b, pay, ppm, months)
				}
				if months > 0 {
					holdOf(t, b, ppm, months)
				}
			}
		}
	}
}

func TestManyAgainstModel(t *testing.T) {
	r := rand.New(rand.NewSource(15))
	for range 4000 {
		b := r.Int63n(int64(1) << r.Intn(44))
		ppm := r.Intn(1 << r.Intn(20))
		pay := r.Int63n(b/int64(1+r.Intn(200)) + 2)
		holdAll(t, min(b, most), pay, ppm, r.Intn(361))
	}
}

// TestTableIsNew: each answer has memory of its own, its spare room too.
func TestTableIsNew(t *testing.T) {
	a, _ := level.Table(1000, 100, 50000, 4)
	b, _ := level.Table(1000, 100, 50000, 4)
	want := append([]int64(nil), b...)
	for i := range a[:cap(a)] {
		a[:cap(a)][i] = -1
	}
	if !same(b, want) {
		t.Errorf("a change of one table changed another: %v, want %v", b, want)
	}
}

// P15.2

func TestOfByCases(t *testing.T) {
	cases := []struct {
		name        string
		b           int64
		ppm, months int
		want        int64
		e           api.Errno
	}{
		{"without interest", 1200, 0, 12, 100, api.OK},
		{"without interest, not even", 1201, 0, 12, 101, api.OK},
		{"with interest", 1000, 120000, 2, 508, api.OK},
		{"nothing owed", 0, topPpm, 360, 0, api.OK},
		{"one month", 1000, 120000, 1, 1010, api.OK},
		{"one month without interest", 1000, 0, 1, 1000, api.OK},
		{"one cent", 1, 0, 360, 1, api.OK},
		{"one cent with interest", 1, 1, 360, 2, api.OK}, // by 1 it stays 1
		{"the greatest balance", most, 0, 1, most, api.OK},
		{"the greatest balance, in all months", most, 0, 360, 27777777778, api.OK},
		{"beyond in the first month", most, 1, 360, 0, api.ErrRange},
		{"up to the brim", brim, topPpm, 1, most, api.OK},
		{"above the brim", brim + 1, topPpm, 1, 0, api.ErrRange},
	}
	for _, c := range cases {
		if n, e := level.Of(c.b, c.ppm, c.months); n != c.want || e != c.e {
			t.Errorf("%s: Of(%d, %d, %d) = %d, %v; want %d, %v", c.name, c.b, c.ppm, c.months, n, e, c.want, c.e)
		}
	}
}

// TestOfAllSmall: the least one is found by trying all payments, one by one.
func TestOfAllSmall(t *testing.T) {
	for b := int64(0); b <= 60; b++ {
		for _, ppm := range []int{0, 1, 50000, 333333, topPpm} {
			for _, months := range []int{1, 2, 3, 7, 12, 60, 360} {
				want := int64(0)
				for !clears(b, want, ppm, months) {
					want++
				}
				if n, e := level.Of(b, ppm, months); n != want || e != api.OK {
					t.Fatalf("Of(%d, %d, %d) = %d, %v; want %d, OK", b, ppm, months, n, e, want)
				}
			}
		}
	}
}

// P15.3

func TestWhoPaysMoreHasNoMoreLeft(t *testing.T) {
	r := rand.New(rand.NewSource(153))
	for range 3000 {
		b, ppm, months := r.Int63n(1000000), r.Intn(topPpm+1), r.Intn(361)
		pay := r.Int63n(b/10 + 2)
		more := pay + r.Int63n(b/10+2)
		n, e := level.Left(b, pay, ppm, months)
		fewer, eMore := level.Left(b, more, ppm, months)
		if e == api.OK && (eMore != api.OK || fewer > n) {
			t.Fatalf("b %d, ppm %d, months %d: by %d %d is left, by %d %d (%v)", b, ppm, months, pay, n, more, fewer, eMore)
		}
	}
}

func TestWhoOwesMorePaysNoLess(t *testing.T) {
	r := rand.New(rand.NewSource(1530))
	for range 3000 {
		b, ppm, months := r.Int63n(brim/2), r.Intn(topPpm/2), 1+r.Intn(360)
		n, e := level.Of(b, ppm, months)
		owes, eOwes := level.Of(b+r.Int63n(b+1), ppm, months)
		rate, eRate := level.Of(b, ppm+r.Intn(topPpm/2), months)
		if e != api.OK || eOwes != api.OK || eRate != api.OK {
			t.Fatalf("b %d, ppm %d, months %d: %v, %v, %v; want OK", b, ppm, months, e, eOwes, eRate)
		}
		if owes < n || rate < n {
			t.Fatalf("b %d, ppm %d, months %d: %d; who owes more pays %d, at a higher rate %d", b, ppm, months, n, owes, rate)
		}
	}
}
