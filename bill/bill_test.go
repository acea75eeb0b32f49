package bill_test

import (
	"math"
	"math/rand"
	"slices"
	"testing"
	"time"

	"annuity/api"
	"annuity/bill"
)

const (
	mostMoney = api.MaxMoney
	mostDay   = api.MaxDay
	lastMonth = 2879
	// mostBills is one a month.
	mostBills = lastMonth + 1
)

// begins is the day on which a month begins, by the library's own calendar.
func begins(month int) int {
	first := time.Date(1960, 1, 1, 0, 0, 0, 0, time.UTC)
	return int(first.AddDate(0, month, 0).Sub(first) / (24 * time.Hour))
}

// owed is a bill of which something is left.
func owed(month int, amount, left int64) api.Bill {
	return api.Bill{Month: month, Amount: amount, Left: left, Covered: -1, Plan: api.Standard, Loans: []int{1, month + 2}}
}

// done is a bill that was covered.
func done(month int, amount int64, day int) api.Bill {
	return api.Bill{Month: month, Amount: amount, Covered: day, Plan: api.Extended, Loans: []int{3}}
}

// usual are good bills, two of which are not covered.
func usual() []api.Bill {
	return []api.Bill{done(3, 500, 100), owed(5, 700, 300), done(6, 0, 182), owed(9, 40, 40), done(12, 60, 0)}
}

func same(a, b api.Bill) bool {
	if !slices.Equal(a.Loans, b.Loans) {
		return false
	}
	return a.Month == b.Month && a.Amount == b.Amount && a.Left == b.Left && a.Covered == b.Covered && a.Plan == b.Plan
}

func allSame(a, b []api.Bill) bool { return slices.EqualFunc(a, b, same) }

// deep is bills in new memory.
func deep(l []api.Bill) []api.Bill {
	var out []api.Bill
	for _, b := range l {
		b.Loans = slices.Clone(b.Loans)
		out = append(out, b)
	}
	return out
}

// each is good bills, one of each month, of so many first months, of all of which something is left.
func each(many int) []api.Bill {
	var l []api.Bill
	for month := range many {
		l = append(l, owed(month, 10, 4))
	}
	return l
}

// with is the usual bills, one of which is changed.
func with(i int, change func(b *api.Bill)) []api.Bill {
	l := usual()
	change(&l[i])
	return l
}

// bads are bills that are not good, by what is amiss in them.
func bads() map[string][]api.Bill {
	all := map[string][]api.Bill{
		"ahead of all months":       {owed(-1, 5, 5)},
		"behind all months":         {owed(mostBills, 5, 5)},
		"one month twice":           {owed(4, 5, 5), owed(4, 5, 5)},
		"one month twice, covered":  {done(0, 5, 5), done(0, 5, 5)},
		"months that fall":          {owed(4, 5, 5), owed(3, 5, 5)},
		"months that fall at last":  append(usual(), owed(11, 5, 5)),
		"the last month twice":      append(usual(), owed(12, 5, 5)),
		"months that fall at first": append([]api.Bill{owed(4, 5, 5)}, usual()...),
		"a bill behind all months":  append(each(mostBills), owed(mostBills, 5, 5)),
		"more bills than months":    append(each(mostBills), owed(lastMonth, 5, 5)),
	}
	for name, change := range badBills() {
		for i := range usual() {
			all[name+", place "+string(rune('0'+i))] = with(i, change)
		}
	}
	return all
}

// badBills are what makes a bill no good, wherever it stands.
func badBills() map[string]func(b *api.Bill) {
	return map[string]func(b *api.Bill){
		"amount below 0":               func(b *api.Bill) { b.Amount, b.Left, b.Covered = -1, 0, 5 },
		"amount below 0, left too":     func(b *api.Bill) { b.Amount, b.Left, b.Covered = -1, -1, 5 },
		"amount far below 0":           func(b *api.Bill) { b.Amount, b.Left, b.Covered = math.MinInt64, 0, 5 },
		"amount too great":             func(b *api.Bill) { b.Amount = mostMoney + 1 },
		"amount far too great":         func(b *api.Bill) { b.Amount = math.MaxInt64 },
		"left below 0":                 func(b *api.Bill) { b.Left, b.Covered = -1, -1 },
		"left below 0, covered":        func(b *api.Bill) { b.Left, b.Covered = -1, 5 },
		"left far below 0":             func(b *api.Bill) { b.Left, b.Covered = math.MinInt64, -1 },
		"left above the amount":        func(b *api.Bill) { b.Left, b.Covered = b.Amount+1, -1 },
		"left far above it":            func(b *api.Bill) { b.Left, b.Covered = math.MaxInt64, -1 },
		"nothing left, not covered":    func(b *api.Bill) { b.Left, b.Covered = 0, -1 },
		"of nothing, not covered":      func(b *api.Bill) { b.Amount, b.Left, b.Covered = 0, 0, -1 },
		"covered below -1":             func(b *api.Bill) { b.Left, b.Covered = 0, -2 },
		"covered far below":            func(b *api.Bill) { b.Left, b.Covered = 0, math.MinInt },
		"covered behind all days":      func(b *api.Bill) { b.Left, b.Covered = 0, mostDay+1 },
		"covered far behind":           func(b *api.Bill) { b.Left, b.Covered = 0, math.MaxInt },
		"something left, covered":      func(b *api.Bill) { b.Amount, b.Left, b.Covered = 9, 1, 0 },
		"all left, covered":            func(b *api.Bill) { b.Amount, b.Left, b.Covered = 9, 9, mostDay },
		"something left, below -1":     func(b *api.Bill) { b.Amount, b.Left, b.Covered = 9, 1, -2 },
		"something left, behind all":   func(b *api.Bill) { b.Amount, b.Left, b.Covered = 9, 1, mostDay+1 },
		"of no month":                  func(b *api.Bill) { b.Month = -1 },
		"of a month far below":         func(b *api.Bill) { b.Month = math.MinInt },
		"of a month behind all":        func(b *api.Bill) { b.Month = mostBills },
		"of a month far behind":        func(b *api.Bill) { b.Month = math.MaxInt },
		"of a month that wraps to one": func(b *api.Bill) { b.Month += 1 << 32 },
	}
}

// goods are good bills.
func goods() map[string][]api.Bill {
	return map[string][]api.Bill{
		"none":               nil,
		"empty":              {},
		"usual":              usual(),
		"the first month":    {owed(0, 5, 5)},
		"the last month":     {owed(lastMonth, 5, 5)},
		"first and last":     {owed(0, 5, 5), owed(lastMonth, 5, 1)},
		"months in a row":    each(30),
		"all months":         each(mostBills),
		"of 0, on day 0":     {done(7, 0, 0)},
		"covered on day 0":   {done(7, 5, 0)},
		"covered at last":    {done(7, 5, mostDay)},
		"covered long ahead": {done(2000, 5, 1)},
		"the most":           {done(7, mostMoney, 5)},
		"the most, all left": {owed(7, mostMoney, mostMoney)},
		"the most, a cent":   {owed(7, mostMoney, 1)},
		"a later one first":  {owed(7, 5, 5), done(8, 5, 5)},
		"of no plan":         {{Month: 7, Amount: 5, Left: 5, Covered: -1}},
		"of any plan":        {{Month: 7, Amount: 5, Left: 5, Covered: -1, Plan: -9, Loans: []int{-1, 0, 0, math.MaxInt}}},
		"of a great plan":    {{Month: 7, Amount: 5, Covered: 9, Plan: math.MaxInt, Loans: []int{}}},
	}
}

// P19.1: Good

func TestGood(t *testing.T) {
	for name, l := range goods() {
		if !bill.Good(l) {
			t.Errorf("%s: not good", name)
		}
	}
	for name, l := range bads() {
		if bill.Good(l) {
			t.Errorf("%s: good", name)
		}
	}
}

// TestGoodByEdges: each of a bill's numbers at all edges, against the chapter's words.
func TestGoodByEdges(t *testing.T) {
	moneys := []int64{math.MinInt64, -1, 0, 1, 2, mostMoney - 1, mostMoney, mostMoney + 1, math.MaxInt64}
	days := []int{math.MinInt, -2, -1, 0, 1, mostDay - 1, mostDay, mostDay + 1, math.MaxInt}
	months := []int{math.MinInt, -1, 0, 1, lastMonth - 1, lastMonth, mostBills, math.MaxInt}
	for _, month := range months {
		for _, amount := range moneys {
			for _, left := range moneys {
				for _, covered := range days {
					isDay := covered >= 0 && covered <= mostDay
					want := month >= 0 && month <= lastMonth && amount >= 0 && amount <= mostMoney &&
						left >= 0 && left <= amount && (left == 0 && isDay || left > 0 && covered == -1)
					b := api.Bill{Month: month, Amount: amount, Left: left, Covered: covered}
					if got := bill.Good([]api.Bill{b}); got != want {
						t.Errorf("Good of %+v = %t", b, got)
					}
				}
			}
		}
	}
}

// TestGoodByMonths: any three months are good just if they rise.
func TestGoodByMonths(t *testing.T) {
	for a := -1; a < 5; a++ {
		for b := -1; b < 5; b++ {
			for c := -1; c < 5; c++ {
				l := []api.Bill{owed(a, 5, 5), done(b, 5, 5), owed(c, 5, 5)}
				if got, want := bill.Good(l), 0 <= a && a < b && b < c; got != want {
					t.Errorf("Good of months %d, %d, %d = %t", a, b, c, got)
				}
			}
		}
	}
}

// P19.1: Issue

type issue struct {
	month         int
	amount, ahead int64
	plan          int
	loans         []int
}

func issued(l []api.Bill, x issue) ([]api.Bill, int64, api.Errno) {
	return bill.Issue(l, x.month, x.amount, x.ahead, x.plan, x.loans)
}

func holdsIssue(t *testing.T, name string, l []api.Bill, x issue, want []api.Bill, left int64, f api.Errno) {
	t.Helper()
	if got, n, e := issued(l, x); !allSame(got, want) || n != left || e != f {
		t.Errorf("%s: Issue(%+v, %+v) = %+v, %d, %v; want %+v, %d, %v", name, l, x, got, n, e, want, left, f)
	}
}

func refusedIssue(t *testing.T, name string, l []api.Bill, x issue, f api.Errno) {
	t.Helper()
	got, n, e := issued(l, x)
	if got != nil || n != 0 || e != f {
		t.Errorf("%s: Issue(.., %+v) = %+v, %d, %v; want %v alone", name, x, got, n, e, f)
	}
}

func TestIssueByCases(t *testing.T) {
	cases := []struct {
		name          string
		amount, ahead int64
		left          int64 // of the bill
		covered       int
		rest          int64 // of what was paid ahead
	}{
		{"nothing ahead", 100, 0, 100, -1, 0},
		{"a part ahead", 100, 30, 70, -1, 0},
		{"a cent less", 100, 99, 1, -1, 0},
		{"just that ahead", 100, 100, 0, 609, 0},
		{"a cent more", 100, 101, 0, 609, 1},
		{"much ahead", 100, 5000, 0, 609, 4900},
		{"a cent", 1, 0, 1, -1, 0},
		{"a cent, ahead", 1, 1, 0, 609, 0},
		{"of 0", 0, 0, 0, 609, 0},
		{"of 0, something ahead", 0, 70, 0, 609, 70},
		{"the most", mostMoney, 0, mostMoney, -1, 0},
		{"the most, less a cent", mostMoney, mostMoney - 1, 1, -1, 0},
		{"the most, ahead", mostMoney, mostMoney, 0, 609, 0},
		{"of 0, the most ahead", 0, mostMoney, 0, 609, mostMoney},
		{"of a cent, the most ahead", 1, mostMoney, 0, 609, mostMoney - 1},
	}
	for _, c := range cases {
		b := api.Bill{Month: 20, Amount: c.amount, Left: c.left, Covered: c.covered, Plan: api.Graduated, Loans: []int{4, 8}}
		x := issue{20, c.amount, c.ahead, api.Graduated, []int{4, 8}} // 1961-09-01
		holdsIssue(t, c.name, nil, x, []api.Bill{b}, c.rest, api.OK)
		holdsIssue(t, c.name+", more", usual(), x, append(usual(), b), c.rest, api.OK)
	}
}

// TestIssueCoversNoOther: what was paid ahead covers that bill alone, whatever is left of those ahead of it.
func TestIssueCoversNoOther(t *testing.T) {
	l := []api.Bill{owed(1, 100, 100), owed(2, 100, 1)}
	want := append(deep(l), api.Bill{Month: 3, Amount: 50, Covered: 91})
	holdsIssue(t, "owing", l, issue{3, 50, 80, 0, nil}, want, 30, api.OK)
}

// TestIssueOnFirsts: a bill that is covered at once is so on its month's first day, of all months.
func TestIssueOnFirsts(t *testing.T) {
	for month := range mostBills {
		want := []api.Bill{{Month: month, Amount: 5, Covered: begins(month)}}
		holdsIssue(t, "covered", nil, issue{month, 5, 5, 0, nil}, want, 0, api.OK)
		want = []api.Bill{{Month: month, Amount: 5, Left: 5, Covered: -1}}
		holdsIssue(t, "not covered", nil, issue{month, 5, 0, 0, nil}, want, 0, api.OK)
	}
}

// TestIssueMonthByMonth: so many bills as there are months, and none more.
func TestIssueMonthByMonth(t *testing.T) {
	var l []api.Bill
	for month := range mostBills {
		out, left, e := bill.Issue(l, month, 10, 6, 1, []int{1, month + 2})
		if e != api.OK || left != 0 || len(out) != month+1 {
			t.Fatalf("Issue of month %d: %d bills, %d, %v", month, len(out), left, e)
		}
		l = out
	}
	if !allSame(l, each(mostBills)) {
		t.Errorf("the bills of all months are %+v", l)
	}
	for _, month := range []int{-1, 0, 5, lastMonth, mostBills} {
		refusedIssue(t, "one more than months", l, issue{month, 1, 1, 1, nil}, api.ErrArg)
	}
}

// TestIssueTakesAny: plans and loans are not held against anything.
func TestIssueTakesAny(t *testing.T) {
	for _, plan := range []int{math.MinInt, -1, 0, 1, 4, 5, math.MaxInt} {
		for _, loans := range [][]int{nil, {}, {0}, {5, 5, 1}, {math.MinInt, math.MaxInt}, make([]int, 5000)} {
			want := append(usual(), api.Bill{Month: 13, Amount: 5, Left: 2, Covered: -1, Plan: plan, Loans: loans})
			holdsIssue(t, "any", usual(), issue{13, 5, 3, plan, loans}, want, 0, api.OK)
		}
	}
}

// wrongIssues are what no bill can be of, behind bills whose last month is 12.
func wrongIssues() map[string]issue {
	return map[string]issue{
		"the last one's month":   {12, 5, 5, 1, nil},
		"a month ahead of it":    {11, 5, 5, 1, nil},
		"a month between":        {7, 5, 5, 1, nil},
		"the first month":        {0, 5, 5, 1, nil},
		"no month":               {-1, 5, 5, 1, nil},
		"far below":              {math.MinInt, 5, 5, 1, nil},
		"behind all months":      {mostBills, 5, 5, 1, nil},
		"far behind":             {math.MaxInt, 5, 5, 1, nil},
		"wraps to a month":       {1<<32 + 20, 5, 5, 1, nil},
		"amount below 0":         {20, -1, 5, 1, nil},
		"amount far below 0":     {20, math.MinInt64, 5, 1, nil},
		"amount too great":       {20, mostMoney + 1, 5, 1, nil},
		"amount far too great":   {20, math.MaxInt64, 5, 1, nil},
		"ahead below 0":          {20, 5, -1, 1, nil},
		"ahead far below 0":      {20, 5, math.MinInt64, 1, nil},
		"ahead too great":        {20, 5, mostMoney + 1, 1, nil},
		"ahead far too great":    {20, 5, math.MaxInt64, 1, nil},
		"all of it":              {-5, -5, -5, -5, []int{-5}},
		"of 0, ahead too great":  {20, 0, mostMoney + 1, 1, []int{1}},
		"both of them below 0":   {20, -1, -1, 1, nil},
		"both of them too great": {20, mostMoney + 1, mostMoney + 1, 1, nil},
	}
}

func TestIssueRefused(t *testing.T) {
	for name, x := range wrongIssues() {
		refusedIssue(t, name, usual(), x, api.ErrArg)
	}
	for _, month := range []int{math.MinInt, -1, mostBills, mostBills + 1, math.MaxInt} {
		refusedIssue(t, "of none, no month", nil, issue{month, 5, 5, 1, nil}, api.ErrArg)
	}
	for name, l := range bads() {
		refusedIssue(t, name, l, issue{20, 5, 5, 1, []int{1}}, api.ErrForm)
		for wrong, x := range wrongIssues() {
			refusedIssue(t, name+", "+wrong, l, x, api.ErrForm)
		}
	}
}

// P19.2

func holdsCredit(t *testing.T, name string, l []api.Bill, amount int64, day int, want []api.Bill, left int64) {
	t.Helper()
	if got, n, e := bill.Credit(l, amount, day); !allSame(got, want) || n != left || e != api.OK {
		t.Errorf("%s: Credit(%+v, %d, %d) = %+v, %d, %v; want %+v, %d", name, l, amount, day, got, n, e, want, left)
	}
}

func refusedCredit(t *testing.T, name string, l []api.Bill, amount int64, day int, f api.Errno) {
	t.Helper()
	if got, n, e := bill.Credit(l, amount, day); got != nil || n != 0 || e != f {
		t.Errorf("%s: Credit(.., %d, %d) = %+v, %d, %v; want %v alone", name, amount, day, got, n, e, f)
	}
}

func TestCreditByCases(t *testing.T) {
	fives := []api.Bill{owed(1, 5, 5), owed(2, 5, 5)}
	mixed := []api.Bill{done(1, 5, 9), owed(2, 5, 2), done(3, 0, 60), owed(4, 7, 7), owed(5, 3, 1)}
	cases := []struct {
		name   string
		l      []api.Bill
		amount int64
		left   []int64 // of the bills
		days   []int   // on which they were covered
		rest   int64
	}{
		{"the chapter's", fives, 7, []int64{0, 3}, []int{80, -1}, 0},
		{"nothing", fives, 0, []int64{5, 5}, []int{-1, -1}, 0},
		{"a cent", fives, 1, []int64{4, 5}, []int{-1, -1}, 0},
		{"a cent less than one", fives, 4, []int64{1, 5}, []int{-1, -1}, 0},
		{"just one", fives, 5, []int64{0, 5}, []int{80, -1}, 0},
		{"a cent more than one", fives, 6, []int64{0, 4}, []int{80, -1}, 0},
		{"a cent less than both", fives, 9, []int64{0, 1}, []int{80, -1}, 0},
		{"both", fives, 10, []int64{0, 0}, []int{80, 80}, 0},
		{"a cent over", fives, 11, []int64{0, 0}, []int{80, 80}, 1},
		{"the most", fives, mostMoney, []int64{0, 0}, []int{80, 80}, mostMoney - 10},
		{"no bills", nil, 7, nil, nil, 7},
		{"no bills, nothing", nil, 0, nil, nil, 0},
		{"no bills, the most", []api.Bill{}, mostMoney, nil, nil, mostMoney},
		{"all were covered", []api.Bill{done(1, 5, 9), done(2, 0, 31)}, 7, []int64{0, 0}, []int{9, 31}, 7},
		{"mixed, nothing", mixed, 0, []int64{0, 2, 0, 7, 1}, []int{9, -1, 60, -1, -1}, 0},
		{"mixed, a cent", mixed, 1, []int64{0, 1, 0, 7, 1}, []int{9, -1, 60, -1, -1}, 0},
		{"mixed, the first one owed", mixed, 2, []int64{0, 0, 0, 7, 1}, []int{9, 80, 60, -1, -1}, 0},
		{"mixed, into the second one owed", mixed, 3, []int64{0, 0, 0, 6, 1}, []int{9, 80, 60, -1, -1}, 0},
		{"mixed, two", mixed, 9, []int64{0, 0, 0, 0, 1}, []int{9, 80, 60, 80, -1}, 0},
		{"mixed, all", mixed, 10, []int64{0, 0, 0, 0, 0}, []int{9, 80, 60, 80, 80}, 0},
		{"mixed, more", mixed, 99, []int64{0, 0, 0, 0, 0}, []int{9, 80, 60, 80, 80}, 89},
		{"of the most", []api.Bill{owed(1, mostMoney, mostMoney), owed(2, mostMoney, mostMoney)}, mostMoney, []int64{0, mostMoney}, []int{80, -1}, 0},
	}
	for _, c := range cases {
		want := deep(c.l)
		for i := range want {
			want[i].Left, want[i].Covered = c.left[i], c.days[i]
		}
		holdsCredit(t, c.name, c.l, c.amount, 80, want, c.rest)
	}
}

// TestCreditOnDays: a bill may be covered ahead of its month, and long behind it.
func TestCreditOnDays(t *testing.T) {
	for _, day := range []int{0, 1, 151, 152, 153, 50000, mostDay - 1, mostDay} {
		want := []api.Bill{owed(5, 9, 0)}
		want[0].Covered = day
		holdsCredit(t, "covered", []api.Bill{owed(5, 9, 4)}, 5, day, want, 1)
	}
}

func TestCreditOfAllMonths(t *testing.T) {
	l := each(mostBills)
	want := deep(l)
	for i := range want {
		want[i].Left, want[i].Covered = 0, 77
	}
	holdsCredit(t, "all", l, 4*mostBills+9, 77, want, 9)
	want[lastMonth].Left, want[lastMonth].Covered = 1, -1
	holdsCredit(t, "all but a cent", l, 4*mostBills-1, 77, want, 0)
}

func TestCreditRefused(t *testing.T) {
	lists := goods()
	for name, l := range lists {
		for _, amount := range []int64{math.MinInt64, -5, -1, mostMoney + 1, math.MaxInt64} {
			refusedCredit(t, name+", no amount", l, amount, 80, api.ErrArg)
			refusedCredit(t, name+", no amount, no day", l, amount, -1, api.ErrArg)
		}
		for _, day := range []int{math.MinInt, -2, -1, mostDay + 1, 1<<32 + 5, math.MaxInt} {
			refusedCredit(t, name+", no day", l, 5, day, api.ErrArg)
			refusedCredit(t, name+", no day, nothing", l, 0, day, api.ErrArg)
		}
	}
	for name, l := range bads() {
		for _, amount := range []int64{-1, 0, 5, mostMoney, mostMoney + 1} {
			for _, day := range []int{-1, 80, mostDay + 1} {
				refusedCredit(t, name, l, amount, day, api.ErrForm)
			}
		}
	}
}

// P19.3

func TestOpen(t *testing.T) {
	cases := []struct {
		name string
		l    []api.Bill
		want int
	}{
		{"none", nil, -1},
		{"empty", []api.Bill{}, -1},
		{"usual", usual(), 1},
		{"the first", []api.Bill{owed(1, 5, 5), owed(2, 5, 5)}, 0},
		{"the second", []api.Bill{done(1, 5, 5), owed(2, 5, 5)}, 1},
		{"a cent of it", []api.Bill{done(1, 5, 5), owed(2, 5, 1), owed(3, 5, 5)}, 1},
		{"the last", []api.Bill{done(1, 5, 5), done(2, 0, 5), owed(9, mostMoney, 1)}, 2},
		{"all covered", []api.Bill{done(1, 5, 5), done(2, 0, 5)}, -1},
		{"all months", each(mostBills), 0},
	}
	for _, c := range cases {
		if got := bill.Open(c.l); got != c.want {
			t.Errorf("%s: Open(%+v) = %d; want %d", c.name, c.l, got, c.want)
		}
	}
	l := each(mostBills)
	for i := range l {
		if got := bill.Open(l); got != i {
			t.Fatalf("the first %d covered: Open = %d", i, got)
		}
		l[i].Left, l[i].Covered = 0, 5
	}
	if got := bill.Open(l); got != -1 {
		t.Errorf("all covered: Open = %d", got)
	}
	for name, l := range bads() {
		if got := bill.Open(l); got != -1 {
			t.Errorf("%s: Open = %d", name, got)
		}
	}
}

func holdsLate(t *testing.T, name string, l []api.Bill, day, want int) {
	t.Helper()
	if got := bill.Late(l, day); got != want {
		t.Errorf("%s: Late(%+v, %d) = %d; want %d", name, l, day, got, want)
	}
}

func TestLateByCases(t *testing.T) {
	first := []api.Bill{owed(1, 5, 5)} // day 31
	second := []api.Bill{done(1, 5, 5), owed(2, 5, 1), owed(3, 5, 5)}
	cases := []struct {
		name      string
		l         []api.Bill
		day, want int
	}{
		{"long ahead", first, 0, 0},
		{"a day ahead", first, 30, 0},
		{"on its first day", first, 31, 0},
		{"a day behind", first, 32, 1},
		{"in time", first, 46, 15},
		{"no more in time", first, 47, 16},
		{"long behind", first, mostDay, mostDay - 31},
		{"the second, a day ahead", second, 59, 0},
		{"the second, on its first day", second, 60, 0},
		{"the second, a day behind", second, 61, 1},
		{"the second, behind the third", second, 100, 40},
		{"month 0, day 0", []api.Bill{owed(0, 5, 5)}, 0, 0},
		{"month 0, day 1", []api.Bill{owed(0, 5, 5)}, 1, 1},
		{"month 0, the last day", []api.Bill{owed(0, 5, 5)}, mostDay, mostDay},
		{"the last month, the last day", []api.Bill{owed(lastMonth, 5, 5)}, mostDay, 30},
		{"none", nil, 5000, 0},
		{"empty", []api.Bill{}, mostDay, 0},
		{"all covered", []api.Bill{done(1, 5, 5), done(2, 0, 5)}, 5000, 0},
		{"day -1", first, -1, 0},
		{"far below", first, math.MinInt, 0},
		{"behind all days", first, mostDay + 1, 0},
		{"far behind", first, math.MaxInt, 0},
	}
	for _, c := range cases {
		holdsLate(t, c.name, c.l, c.day, c.want)
	}
	for name, l := range bads() {
		for _, day := range []int{-1, 0, 5000, mostDay} {
			holdsLate(t, name, l, day, 0)
		}
	}
}

// TestLateByMonths: around the first day of each month, and around the next one's.
func TestLateByMonths(t *testing.T) {
	for month := range mostBills {
		l := []api.Bill{owed(month, 5, 5)}
		for _, first := range []int{begins(month), begins(month + 1)} {
			for day := first - 2; day <= first+2; day++ {
				want := max(day-begins(month), 0)
				if day < 0 || day > mostDay {
					want = 0
				}
				holdsLate(t, "by months", l, day, want)
			}
		}
	}
}

func holdsFind(t *testing.T, name string, l []api.Bill, month int, want api.Bill, ok bool) {
	t.Helper()
	if got, is := bill.Find(l, month); !same(got, want) || is != ok || !ok && got.Loans != nil {
		t.Errorf("%s: Find(.., %d) = %+v, %t; want %+v, %t", name, month, got, is, want, ok)
	}
}

func TestFind(t *testing.T) {
	for name, l := range goods() {
		for _, b := range l {
			holdsFind(t, name, l, b.Month, b, true)
		}
		for _, month := range []int{math.MinInt, -1, mostBills, 1 << 32, math.MaxInt} {
			holdsFind(t, name, l, month, api.Bill{}, false)
		}
	}
	for month := -1; month < 20; month++ {
		i := slices.IndexFunc(usual(), func(b api.Bill) bool { return b.Month == month })
		if i < 0 {
			holdsFind(t, "usual", usual(), month, api.Bill{}, false)
		}
	}
	holdsFind(t, "none", nil, 0, api.Bill{}, false)
	holdsFind(t, "empty", []api.Bill{}, 0, api.Bill{}, false)
	for name, l := range bads() {
		for _, b := range l {
			holdsFind(t, name, l, b.Month, api.Bill{}, false)
		}
		holdsFind(t, name, l, 0, api.Bill{}, false)
	}
}

// P19.4, and all calls one behind the other

// modelCredit goes cent by cent.
func modelCredit(l []api.Bill, amount int64, day int) ([]api.Bill, int64) {
	out := deep(l)
	for amount > 0 {
		i := 0
		for i < len(out) && out[i].Left == 0 {
			i++
		}
		if i == len(out) {
			break
		}
		out[i].Left--
		amount--
		if out[i].Left == 0 {
			out[i].Covered = day
		}
	}
	return out, amount
}

// modelIssue goes cent by cent too.
func modelIssue(l []api.Bill, x issue) ([]api.Bill, int64) {
	b := api.Bill{Month: x.month, Amount: x.amount, Left: x.amount, Covered: -1, Plan: x.plan, Loans: x.loans}
	if x.amount == 0 {
		b.Covered = begins(x.month)
	}
	one, left := modelCredit([]api.Bill{b}, x.ahead, begins(x.month))
	return append(deep(l), one...), left
}

func anyIssue(r *rand.Rand, month int) issue {
	x := issue{month, r.Int63n(20), 0, r.Intn(6), nil}
	if r.Intn(2) == 0 {
		x.ahead = r.Int63n(40)
	}
	for range r.Intn(4) {
		x.loans = append(x.loans, r.Intn(9))
	}
	return x
}

func TestWalks(t *testing.T) {
	r := rand.New(rand.NewSource(19))
	for range 300 {
		var l []api.Bill
		month := r.Intn(2700)
		for range 60 {
			if r.Intn(2) == 0 {
				month += 1 + r.Intn(3)
				x := anyIssue(r, month)
				want, left := modelIssue(l, x)
				holdsIssue(t, "walk", l, x, want, left, api.OK)
				l = want
			} else {
				amount, day := r.Int63n(60), r.Intn(mostDay+1)
				want, left := modelCredit(l, amount, day)
				holdsCredit(t, "walk", l, amount, day, want, left)
				l = want
			}
			walked(t, l, r.Intn(mostDay+1))
			if t.Failed() {
				return
			}
		}
	}
}

// walked holds what is asked of bills, somewhere on the way.
func walked(t *testing.T, l []api.Bill, day int) {
	t.Helper()
	open := slices.IndexFunc(l, func(b api.Bill) bool { return b.Left != 0 })
	if !bill.Good(l) || bill.Open(l) != open {
		t.Errorf("Good(%+v) = %t, Open = %d", l, bill.Good(l), bill.Open(l))
	}
	want := 0
	if open >= 0 {
		want = max(day-begins(l[open].Month), 0)
	}
	holdsLate(t, "walk", l, day, want)
	for _, b := range l {
		holdsFind(t, "walk", l, b.Month, b, true)
	}
}

func leftOf(l []api.Bill) int64 {
	n := int64(0)
	for _, b := range l {
		n += b.Left
	}
	return n
}

// TestCreditedIsLessLeft: whatever the sizes are.
func TestCreditedIsLessLeft(t *testing.T) {
	r := rand.New(rand.NewSource(194))
	over := 0
	for range 5000 {
		var l []api.Bill
		size := r.Intn(43)
		for month := range r.Intn(40) {
			amount := r.Int63n(int64(1) << size)
			b := owed(month, amount, r.Int63n(amount+1))
			if b.Left == 0 {
				b.Covered = r.Intn(mostDay + 1)
			}
			l = append(l, b)
		}
		amount, day := r.Int63n(int64(1)<<r.Intn(44)), r.Intn(mostDay+1)
		out, left, e := bill.Credit(l, amount, day)
		if e != api.OK || !bill.Good(out) || leftOf(l)-leftOf(out)+left != amount || left > 0 && leftOf(out) > 0 {
			t.Fatalf("Credit(%+v, %d, %d) = %+v, %d, %v", l, amount, day, out, left, e)
		}
		for i, b := range out {
			// Each one that anything went to is behind none that is still owed.
			if b.Left < l[i].Left && leftOf(out[:i]) > 0 || b.Left > l[i].Left {
				t.Fatalf("Credit(%+v, %d, %d) = %+v, %d, %v", l, amount, day, out, left, e)
			}
		}
		if left > 0 {
			over++
		}
	}
	if over < 500 || over > 4500 {
		t.Errorf("in %d of 5000 something was left over", over)
	}
}

// Memory

// roomy is bills with spare room behind them and behind their loans.
func roomy() []api.Bill {
	l := append(usual(), owed(7, 7, 7), owed(8, 8, 8))
	for i := range l {
		l[i].Loans = append(l[i].Loans, 70, 71, 72)[:len(l[i].Loans)]
	}
	return l[:5]
}

// whole is bills with all their spare room.
func whole(l []api.Bill) []api.Bill {
	out := deep(l[:cap(l)])
	for i, b := range l[:cap(l)] {
		out[i].Loans = slices.Clone(b.Loans[:cap(b.Loans)])
	}
	return out
}

// spoil overwrites bills, their spare room too.
func spoil(l []api.Bill) {
	l = l[:cap(l)]
	for i := range l {
		spoilInts(l[i].Loans)
		l[i] = api.Bill{Month: -7, Amount: -7, Left: -7, Covered: -7, Plan: -7}
	}
}

func spoilInts(l []int) {
	l = l[:cap(l)]
	for i := range l {
		l[i] = -7
	}
}

func TestIssueTwice(t *testing.T) {
	l, loans := roomy(), []int{4, 8, 15}
	was, x := whole(l), issue{20, 100, 30, 2, loans[:2]}
	want := append(usual(), api.Bill{Month: 20, Amount: 100, Left: 70, Covered: -1, Plan: 2, Loans: []int{4, 8}})
	for range 3 {
		out, _, _ := issued(l, x)
		holdsIssue(t, "with room", l, x, want, 0, api.OK)
		spoil(out)
		holdsIssue(t, "behind an answer that was overwritten", l, x, want, 0, api.OK)
	}
	if !allSame(whole(l), was) || !slices.Equal(loans, []int{4, 8, 15}) {
		t.Errorf("what was handed in is now %+v, %d", whole(l), loans)
	}
	out, _, _ := issued(l, x)
	spoil(l)
	spoilInts(loans)
	if !allSame(out, want) {
		t.Errorf("behind arguments that were overwritten: %+v", out)
	}
}

func TestCreditTwice(t *testing.T) {
	for _, amount := range []int64{0, 310, 5000} {
		l := roomy()
		was := whole(l)
		want, left := modelCredit(usual(), amount, 80)
		for range 3 {
			out, _, _ := bill.Credit(l, amount, 80)
			holdsCredit(t, "with room", l, amount, 80, want, left)
			spoil(out)
			holdsCredit(t, "behind an answer that was overwritten", l, amount, 80, want, left)
		}
		if !allSame(whole(l), was) {
			t.Errorf("what was handed in is now %+v", whole(l))
		}
		out, _, _ := bill.Credit(l, amount, 80)
		spoil(l)
		if !allSame(out, want) {
			t.Errorf("behind arguments that were overwritten: %+v", out)
		}
	}
}

// TestListsApart: no two lists of one answer share memory, even if those that were handed in did.
func TestListsApart(t *testing.T) {
	one := []int{1, 2, 3, 4, 5, 6}
	l := []api.Bill{owed(1, 5, 5), owed(2, 5, 5), owed(3, 5, 5)}
	for i := range l {
		l[i].Loans = one[:3]
	}
	issuedAll, _, _ := bill.Issue(l, 4, 5, 0, 1, one[:3])
	credited, _, _ := bill.Credit(l, 7, 80)
	for _, out := range [][]api.Bill{issuedAll, credited} {
		for i := range out {
			spoilInts(out[i].Loans)
			for j := range out {
				if want := []int{1, 2, 3}; j > i && !slices.Equal(out[j].Loans, want) {
					t.Errorf("behind the loans of place %d those of %d are %d", i, j, out[j].Loans)
				}
			}
		}
	}
	if !slices.Equal(one, []int{1, 2, 3, 4, 5, 6}) {
		t.Errorf("what was handed in is now %d", one)
	}
}

func TestFindTwice(t *testing.T) {
	l := roomy()
	was := whole(l)
	for _, want := range usual() {
		b, _ := bill.Find(l, want.Month)
		spoilInts(b.Loans)
		holdsFind(t, "behind an answer that was overwritten", l, want.Month, want, true)
	}
	if !allSame(whole(l), was) {
		t.Errorf("what was handed in is now %+v", whole(l))
	}
}

// TestAsked: nothing that is asked changes bills.
func TestAsked(t *testing.T) {
	l := roomy()
	was := whole(l)
	bill.Good(l)
	bill.Open(l)
	bill.Late(l, 5000)
	if !allSame(whole(l), was) {
		t.Errorf("what was handed in is now %+v", whole(l))
	}
}
