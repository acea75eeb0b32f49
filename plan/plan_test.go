package plan_test

import (
	"math"
	"math/big"
	"math/rand"
	"slices"
	"testing"
	"time"

	"annuity/api"
	"annuity/income"
	"annuity/plan"
)

const (
	mostMoney = api.MaxMoney
	mostDay   = api.MaxDay
	// oneCent is what a loan owes as interest, if that is a cent.
	oneCent = api.Micro
)

// usual is a loan that takes part, in which no field is 0 but Closed: it entered repayment on 2000-02-29.
func usual() api.Loan {
	return api.Loan{
		Id: 7, Principal: 1000000, Interest: 2500000, Subsidy: 3700000, Fees: 500, Ppm: 50000, Subsidised: true,
		Status: api.Repay, Entered: 14669, Level: 10607, Far: 5846, Count: 12,
	}
}

// with is the usual loan, changed.
func with(change func(l *api.Loan)) api.Loan {
	l := usual()
	change(&l)
	return l
}

// owing is a loan that takes part, of just that principal.
func owing(id int, principal int64) api.Loan {
	return api.Loan{Id: id, Principal: principal, Status: api.Repay, Entered: 100, Level: 1000, Far: 400}
}

// bads are loans that are not good, by what is amiss in them.
func bads() map[string]api.Loan {
	return map[string]api.Loan{
		"empty":               {},
		"no Id":               with(func(l *api.Loan) { l.Id = 0 }),
		"an Id too great":     with(func(l *api.Loan) { l.Id = 1001 }),
		"principal below 0":   with(func(l *api.Loan) { l.Principal = -1 }),
		"too much principal":  with(func(l *api.Loan) { l.Principal = mostMoney + 1 }),
		"interest below 0":    with(func(l *api.Loan) { l.Interest = -1 }),
		"too much interest":   with(func(l *api.Loan) { l.Interest = api.MaxMicro + 1 }),
		"fees below 0":        with(func(l *api.Loan) { l.Fees = math.MinInt64 }),
		"too great a rate":    with(func(l *api.Loan) { l.Ppm = api.MaxPpm + 1 }),
		"no status":           with(func(l *api.Loan) { l.Status = 0 }),
		"a sixth status":      with(func(l *api.Loan) { l.Status = 6 }),
		"entered too late":    with(func(l *api.Loan) { l.Entered = mostDay + 1 }),
		"entered below -1":    with(func(l *api.Loan) { l.Entered = -2 }),
		"level below 0":       with(func(l *api.Loan) { l.Level = -1 }),
		"too great a level":   with(func(l *api.Loan) { l.Level = mostMoney + 1 }),
		"far too great":       with(func(l *api.Loan) { l.Far = math.MaxInt64 }),
		"count below 0":       with(func(l *api.Loan) { l.Count = -1 }),
		"closed as a fifth":   with(func(l *api.Loan) { l.Closed = 5 }),
		"closed, still owing": with(func(l *api.Loan) { l.Closed = api.Paid }),
	}
}

// shut is a loan that is closed, while it was in repayment.
func shut(how int) api.Loan {
	return with(func(l *api.Loan) { l.Principal, l.Interest, l.Fees, l.Closed = 0, 0, 0, how })
}

// outside are good loans that take no part, by why they don't.
func outside() map[string]api.Loan {
	return map[string]api.Loan{
		"school":       with(func(l *api.Loan) { l.Status, l.Entered = api.School, -1 }),
		"grace":        with(func(l *api.Loan) { l.Status, l.Entered = api.Grace, -1 }),
		"deferment":    with(func(l *api.Loan) { l.Status = api.Deferment }),
		"forbearance":  with(func(l *api.Loan) { l.Status = api.Forbear }),
		"paid":         shut(api.Paid),
		"forgiven":     shut(api.Forgiven),
		"discharged":   shut(api.Discharged),
		"consolidated": shut(api.Consolidated),
	}
}

// date is a day's number, by the library's own calendar.
func date(year int, month time.Month, day int) int {
	return int(time.Date(year, month, day, 0, 0, 0, 0, time.UTC).Sub(first()) / (24 * time.Hour))
}

func first() time.Time { return time.Date(1960, 1, 1, 0, 0, 0, 0, time.UTC) }

// P18.1

// modelHolds goes by the library's calendar.
func modelHolds(how, since, day int) int {
	if how == 0 {
		return api.Standard
	}
	if how != api.ByIncome {
		return how
	}
	if since < 0 || since > mostDay {
		return api.Standard
	}
	from := first().AddDate(0, 0, since)
	year, month, of := from.Year()+1, from.Month(), from.Day()
	if month == time.February && of == 29 {
		of = 28
	}
	if year > 2199 || day >= date(year, month, of) {
		return api.Standard
	}
	return api.ByIncome
}

func TestHoldsByCases(t *testing.T) {
	leap := 14669 // 2000-02-29
	cases := []struct {
		name            string
		how, since, day int
		want            int
	}{
		{"none was chosen", 0, 0, 0, api.Standard},
		{"none was chosen, long ago", 0, 100, mostDay, api.Standard},
		{"none was chosen, of no day", 0, -1, 5, api.Standard},
		{"standard", api.Standard, 0, 5000, api.Standard},
		{"extended, at once", api.Extended, 1000, 1000, api.Extended},
		{"extended, long ago", api.Extended, 0, mostDay, api.Extended},
		{"extended, of no day", api.Extended, -1, 5, api.Extended},
		{"graduated, long ago", api.Graduated, 0, mostDay, api.Graduated},
		{"graduated, at the calendar's end", api.Graduated, mostDay, mostDay, api.Graduated},
		{"a fifth", 5, 0, 5000, 5},
		{"a greater one", math.MaxInt, 0, 5000, math.MaxInt},
		{"one below 0", -1, 0, 5000, -1},
		{"one far below 0", math.MinInt, 0, 0, math.MinInt},
		{"by income, at once", api.ByIncome, leap, leap, api.ByIncome},
		{"by income, ahead of it", api.ByIncome, leap, 0, api.ByIncome},
		{"by income, ahead of all days", api.ByIncome, leap, math.MinInt, api.ByIncome},
		{"by income, the last day", api.ByIncome, leap, 15033, api.ByIncome},
		{"by income, a year on", api.ByIncome, leap, 15034, api.Standard},
		{"by income, a year and a day on", api.ByIncome, leap, 15035, api.Standard},
		{"by income, behind all days", api.ByIncome, leap, math.MaxInt, api.Standard},
		{"by income, of day 0, the last day", api.ByIncome, 0, 365, api.ByIncome},
		{"by income, of day 0, a long year on", api.ByIncome, 0, 366, api.Standard},
		{"by income, of the last one of which there is an end", api.ByIncome, mostDay - 365, mostDay - 1, api.ByIncome},
		{"by income, the calendar's last day", api.ByIncome, mostDay - 365, mostDay, api.Standard},
		{"by income, whose end is no day", api.ByIncome, mostDay - 364, mostDay - 364, api.Standard},
		{"by income, of the last day", api.ByIncome, mostDay, mostDay, api.Standard},
		{"by income, of the last day, ahead of it", api.ByIncome, mostDay, 0, api.Standard},
		{"by income, of no day", api.ByIncome, -1, 0, api.Standard},
		{"by income, of no day, behind all", api.ByIncome, mostDay + 1, 0, api.Standard},
		{"by income, far behind all", api.ByIncome, math.MaxInt, 5, api.Standard},
		{"by income, far ahead of all", api.ByIncome, math.MinInt, math.MinInt, api.Standard},
	}
	for _, c := range cases {
		s := api.State{Plan: c.how, Since: c.since}
		if got := plan.Holds(s, c.day); got != c.want {
			t.Errorf("%s: of plan %d since %d on %d holds %d; want %d", c.name, c.how, c.since, c.day, got, c.want)
		}
	}
}

// TestHoldsOfAllDays goes round the end of a year of each day of the calendar.
func TestHoldsOfAllDays(t *testing.T) {
	for since := -3; since <= mostDay+3; since++ {
		for _, day := range []int{since, since + 364, since + 365, since + 366, since + 367} {
			s := api.State{Plan: api.ByIncome, Since: since}
			if got, want := plan.Holds(s, day), modelHolds(api.ByIncome, since, day); got != want {
				t.Fatalf("by income since %d on %d holds %d; want %d", since, day, got, want)
			}
		}
	}
}

// TestHoldsByPlanAlone: nothing else of a state has a say.
func TestHoldsByPlanAlone(t *testing.T) {
	s := api.State{
		Day: 5, Loans: []api.Loan{usual(), {}}, Plan: api.ByIncome, Since: 1000, Income: -1, Family: 99,
		Bills: []api.Bill{{Month: 3, Plan: 2}}, Ahead: -5, Written: 9,
	}
	for how := -2; how <= 7; how++ {
		for _, day := range []int{-1, 0, 999, 1000, 1364, 1365, 1366, mostDay, mostDay + 1} {
			s.Plan = how
			if got, want := plan.Holds(s, day), modelHolds(how, 1000, day); got != want {
				t.Errorf("of plan %d since 1000 on %d holds %d; want %d", how, day, got, want)
			}
		}
	}
}

func TestPart(t *testing.T) {
	for status := -1; status <= 7; status++ {
		for closed := -1; closed <= 6; closed++ {
			want := status == 5 && closed == 0
			l := with(func(l *api.Loan) { l.Status, l.Closed = status, closed })
			if got := plan.Part(l); got != want {
				t.Errorf("Part of one in status %d, closed as %d: %v; want %v", status, closed, got, want)
			}
			// Whatever else is amiss in it.
			if got := plan.Part(api.Loan{Id: -1, Principal: -1, Status: status, Closed: closed}); got != want {
				t.Errorf("Part of a bad one in status %d, closed as %d: %v; want %v", status, closed, got, want)
			}
		}
	}
	for name, l := range outside() {
		if plan.Part(l) {
			t.Errorf("%s: it takes part", name)
		}
	}
}

func TestCounts(t *testing.T) {
	counting := map[int]int{1: 1, 4: 1}
	for _, how := range []int{math.MinInt, -4, -1, 0, 1, 2, 3, 4, 5, 6, 8, 1<<32 + 1, math.MaxInt} {
		if got, want := plan.Counts(how), counting[how] == 1; got != want {
			t.Errorf("Counts(%d) = %v; want %v", how, got, want)
		}
	}
}

// P18.2

// clears tells whether a payment leaves nothing behind so many months, by numbers of any length.
func clears(b, pay int64, ppm, months int) bool {
	left, most := big.NewInt(b), big.NewInt(mostMoney)
	for range months {
		interest := new(big.Int).Mul(left, big.NewInt(int64(ppm)))
		interest.Add(interest, big.NewInt(11999999)).Quo(interest, big.NewInt(12000000))
		left.Add(left, interest)
		if left.Cmp(most) > 0 {
			return false
		}
		left.Sub(left, big.NewInt(pay))
		if left.Sign() <= 0 {
			return true
		}
	}
	return left.Sign() == 0
}

// isLeast tells whether a payment clears, and one by a cent less does not.
func isLeast(b, pay int64, ppm, months int) bool {
	return clears(b, pay, ppm, months) && (pay == 0 || !clears(b, pay-1, ppm, months))
}

func TestSetByCases(t *testing.T) {
	cases := []struct {
		name      string
		principal int64
		ppm       int
		level     int64
		far       int64
	}{
		{"without interest", 1200000, 0, 10000, 4000},
		{"without interest, a cent more", 1200001, 0, 10001, 4001},
		{"nothing", 0, 50000, 0, 0},
		{"nothing, without interest", 0, 0, 0, 0},
		{"a cent", 1, 0, 1, 1},
		{"as many cents as months", 120, 0, 1, 1},
		{"more cents than months", 121, 0, 2, 1},
		{"as many cents as the more months", 300, 0, 3, 1},
		{"one more", 301, 0, 3, 2},
		{"the most, without interest", mostMoney, 0, 83333333334, 33333333334},
		{"the usual", 1000000, 50000, 10608, 5847},
	}
	for _, c := range cases {
		l := with(func(l *api.Loan) { l.Principal, l.Ppm, l.Level, l.Far = c.principal, c.ppm, 77, 88 })
		want := l
		want.Level, want.Far = c.level, c.far
		if got, e := plan.Set(l); got != want || e != api.OK {
			t.Errorf("%s: Set(%+v) = %+v, %v; want %+v, %v", c.name, l, got, e, want, api.OK)
		}
		if !isLeast(c.principal, c.level, c.ppm, 120) || !isLeast(c.principal, c.far, c.ppm, 300) {
			t.Errorf("%s: %d and %d are not what just pays off %d", c.name, c.level, c.far, c.principal)
		}
	}
}

// TestSetOfAnyStatus: who is not in repayment is set just so, and nothing but the two is touched.
func TestSetOfAnyStatus(t *testing.T) {
	for status := api.School; status <= api.Repay; status++ {
		for _, entered := range []int{-1, 0, 14669, mostDay} {
			l := with(func(l *api.Loan) { l.Status, l.Entered, l.Level, l.Far = status, entered, 0, mostMoney })
			want := l
			want.Level, want.Far = 10608, 5847
			if got, e := plan.Set(l); got != want || e != api.OK {
				t.Errorf("Set(%+v) = %+v, %v; want %+v, %v", l, got, e, want, api.OK)
			}
		}
	}
}

// TestSetByPrincipalAlone: interest and fees have no say.
func TestSetByPrincipalAlone(t *testing.T) {
	l := with(func(l *api.Loan) {
		l.Principal, l.Ppm, l.Interest, l.Subsidy, l.Fees = 1200000, 0, api.MaxMicro, api.MaxMicro, mostMoney
	})
	if got, e := plan.Set(l); got.Level != 10000 || got.Far != 4000 || e != api.OK {
		t.Errorf("Set(%+v) = %+v, %v; want a level of 10000, a far one of 4000", l, got, e)
	}
}

func TestSetMany(t *testing.T) {
	r := rand.New(rand.NewSource(182))
	for range 300 {
		l := with(func(l *api.Loan) {
			l.Principal, l.Ppm = r.Int63n(int64(1)<<(1+r.Intn(42))), r.Intn(1<<(1+r.Intn(19)))
		})
		got, e := plan.Set(l)
		if e != api.OK || !isLeast(l.Principal, got.Level, l.Ppm, 120) || !isLeast(l.Principal, got.Far, l.Ppm, 300) {
			t.Fatalf("Set(%+v) = %+v, %v", l, got, e)
		}
	}
}

func refusedSet(t *testing.T, name string, l api.Loan, want api.Errno) {
	t.Helper()
	if got, e := plan.Set(l); got != (api.Loan{}) || e != want {
		t.Errorf("%s: Set(%+v) = %+v, %v; want none, %v", name, l, got, e, want)
	}
}

func TestSetRefused(t *testing.T) {
	for name, l := range bads() {
		refusedSet(t, name, l, api.ErrArg)
	}
	for closed := api.Paid; closed <= api.Consolidated; closed++ {
		refusedSet(t, "closed", shut(closed), api.ErrGone)
		l := shut(closed)
		l.Status, l.Ppm = api.School, api.MaxPpm
		refusedSet(t, "closed, in school", l, api.ErrGone)
		l.Count = -1
		refusedSet(t, "closed, and bad", l, api.ErrArg)
	}
	for _, ppm := range []int{1, 50000, api.MaxPpm} {
		l := with(func(l *api.Loan) { l.Principal, l.Ppm = mostMoney, ppm })
		refusedSet(t, "it grows beyond money", l, api.ErrRange)
	}
}

// P18.3

func owesOf(l api.Loan) *big.Int {
	n := new(big.Int).Add(big.NewInt(l.Principal), big.NewInt(l.Fees))
	return n.Add(n, big.NewInt(l.Interest/api.Micro))
}

// wholeMonths goes month by month, by the library's calendar.
func wholeMonths(from, to int) int {
	if from < 0 || from > to {
		return 0
	}
	begin := first().AddDate(0, 0, from)
	// No month is longer than 31 days: so many are whole, and maybe some more.
	for k := (to-from)/31 + 1; ; k++ {
		// The month's last day, where it has none so late.
		month := time.Date(begin.Year(), begin.Month()+time.Month(k), 1, 0, 0, 0, 0, time.UTC)
		last := month.AddDate(0, 1, -1).Day()
		if date(month.Year(), month.Month(), min(begin.Day(), last)) > to {
			return k - 1
		}
	}
}

// modelWish is what a plan asks of a loan that takes part, whatever it owes.
func modelWish(l api.Loan, how, day int) *big.Int {
	switch how {
	case api.Standard:
		return big.NewInt(l.Level)
	case api.Extended:
		return big.NewInt(l.Far)
	}
	shares := []int64{60, 80, 100, 125, 150}
	n := big.NewInt(shares[min(wholeMonths(l.Entered, day)/24, 4)])
	n.Mul(n, big.NewInt(l.Level))
	return n.Add(n, big.NewInt(99)).Quo(n, big.NewInt(100))
}

// modelOf is of a good loan, a plan from 1 to 3, and a day.
func modelOf(l api.Loan, how, day int) (int64, api.Errno) {
	if l.Closed != 0 || l.Status != 5 {
		return 0, api.OK
	}
	wish, owed := modelWish(l, how, day), owesOf(l)
	if max(wish.Int64(), owed.Int64()) > mostMoney {
		return 0, api.ErrRange
	}
	return min(wish.Int64(), owed.Int64()), api.OK
}

func holdsOf(t *testing.T, name string, l api.Loan, how, day int, want int64, f api.Errno) {
	t.Helper()
	if got, e := plan.Of(l, how, day); got != want || e != f {
		t.Errorf("%s: Of(%+v, %d, %d) = %d, %v; want %d, %v", name, l, how, day, got, e, want, f)
	}
}

func TestOfByCases(t *testing.T) {
	cases := []struct {
		name string
		l    api.Loan
		how  int
		day  int
		want int64
	}{
		{"standard", usual(), api.Standard, 20000, 10607},
		{"standard, ahead of all", usual(), api.Standard, 0, 10607},
		{"standard, the last day", usual(), api.Standard, mostDay, 10607},
		{"extended", usual(), api.Extended, 20000, 5846},
		{"extended, long ago", usual(), api.Extended, mostDay, 5846},
		{"graduated, at once", usual(), api.Graduated, 14669, 6365},                                 // 60 of 100: 6364.2
		{"graduated, ahead of it", usual(), api.Graduated, 0, 6365},                                 // no months
		{"graduated, a day ahead of two years", usual(), api.Graduated, date(2002, 2, 27), 6365},    // 23 months
		{"graduated, two years on", usual(), api.Graduated, date(2002, 2, 28), 8486},                // 80 of 100: 8485.6
		{"graduated, a day ahead of four years", usual(), api.Graduated, date(2004, 2, 28), 8486},   // 47 months
		{"graduated, four years on", usual(), api.Graduated, date(2004, 2, 29), 10607},              // 100 of 100
		{"graduated, six years on", usual(), api.Graduated, date(2006, 2, 28), 13259},               // 125: 13258.75
		{"graduated, eight years on", usual(), api.Graduated, date(2008, 2, 29), 15911},             // 150: 15910.5
		{"graduated, long ago", usual(), api.Graduated, mostDay, 15911},                             // no later step
		{"never entered", with(func(l *api.Loan) { l.Entered = -1 }), api.Graduated, mostDay, 6365}, // no months
		{"entered on day 0", with(func(l *api.Loan) { l.Entered = 0 }), api.Graduated, 731, 8486},   // 1962-01-01
		{"entered on day 0, a day less", with(func(l *api.Loan) { l.Entered = 0 }), api.Graduated, 730, 6365},
		{"no level", with(func(l *api.Loan) { l.Level = 0 }), api.Standard, 20000, 0},
		{"no level, graduated", with(func(l *api.Loan) { l.Level = 0 }), api.Graduated, 20000, 0},
		{"no level, extended", with(func(l *api.Loan) { l.Level = 0 }), api.Extended, 20000, 5846},
		{"nothing far", with(func(l *api.Loan) { l.Far = 0 }), api.Extended, 20000, 0},
		{"owes less", with(func(l *api.Loan) { l.Principal = 100 }), api.Standard, 20000, 602},
		{"owes less, extended", with(func(l *api.Loan) { l.Principal = 100 }), api.Extended, 20000, 602},
		{"owes less, graduated", with(func(l *api.Loan) { l.Principal = 100 }), api.Graduated, 20000, 602},
		{"owes just that", with(func(l *api.Loan) { l.Principal, l.Fees, l.Interest = 10606, 0, oneCent }), api.Standard, 5, 10607},
		{"owes a cent less", with(func(l *api.Loan) { l.Principal, l.Fees, l.Interest = 10606, 0, oneCent-1 }), api.Standard, 5, 10606},
		{"owes a cent more", with(func(l *api.Loan) { l.Principal, l.Fees, l.Interest = 10606, 1, oneCent }), api.Standard, 5, 10607},
		{"owes fees alone", with(func(l *api.Loan) { l.Principal, l.Interest = 0, 0 }), api.Standard, 5, 500},
		{"owes interest alone", with(func(l *api.Loan) { l.Principal, l.Fees = 0, 0 }), api.Standard, 5, 2},
		{"owes nothing", with(func(l *api.Loan) { l.Principal, l.Fees, l.Interest = 0, 0, oneCent-1 }), api.Standard, 5, 0},
		{"the most", with(func(l *api.Loan) { l.Principal, l.Fees, l.Interest, l.Level = mostMoney, 0, 0, mostMoney }), api.Standard, 5, mostMoney},
		{"the most, far", with(func(l *api.Loan) { l.Principal, l.Fees, l.Interest, l.Far = mostMoney, 0, 0, mostMoney }), api.Extended, 5, mostMoney},
		{"most of all steps", with(func(l *api.Loan) { l.Principal, l.Fees, l.Level = 5, 0, mostMoney/3*2 }), api.Graduated, mostDay, 7},
	}
	for _, c := range cases {
		holdsOf(t, c.name, c.l, c.how, c.day, c.want, api.OK)
	}
}

func TestOfOutside(t *testing.T) {
	for name, l := range outside() {
		for how := api.Standard; how <= api.Graduated; how++ {
			for _, day := range []int{0, 14669, mostDay} {
				holdsOf(t, name, l, how, day, 0, api.OK)
				// Nothing that goes wrong is met, as nothing is asked.
				l.Level, l.Far = mostMoney, mostMoney
				holdsOf(t, name, l, how, day, 0, api.OK)
				if l.Closed == 0 {
					l.Principal, l.Fees = mostMoney, mostMoney
					holdsOf(t, name, l, how, day, 0, api.OK)
				}
			}
		}
	}
}

func TestOfRefused(t *testing.T) {
	for name, l := range bads() {
		for how := api.Standard; how <= api.Graduated; how++ {
			holdsOf(t, name, l, how, 20000, 0, api.ErrArg)
		}
	}
	loans := outside()
	loans["usual"] = usual()
	for name, l := range loans {
		for _, how := range []int{math.MinInt, -1, 0, api.ByIncome, 5, 6, 1<<32 + 1, math.MaxInt} {
			holdsOf(t, name+", of no such plan", l, how, 20000, 0, api.ErrArg)
		}
		for _, day := range []int{math.MinInt, -2, -1, mostDay + 1, 1 << 32, math.MaxInt} {
			for how := api.Standard; how <= api.Graduated; how++ {
				holdsOf(t, name+", on no day", l, how, day, 0, api.ErrArg)
			}
		}
	}
}

func TestOfTooMuch(t *testing.T) {
	risen := with(func(l *api.Loan) { l.Level = mostMoney })
	holdsOf(t, "a step beyond money", risen, api.Graduated, mostDay, 0, api.ErrRange)
	holdsOf(t, "a step that is money", risen, api.Graduated, 14669, 1000502, api.OK)
	holdsOf(t, "no step", risen, api.Standard, mostDay, 1000502, api.OK)
	brink := with(func(l *api.Loan) { l.Level = mostMoney/3*2 + 1 })
	holdsOf(t, "a step just beyond money", brink, api.Graduated, mostDay, 0, api.ErrRange)
}

func TestOfOwingTooMuch(t *testing.T) {
	loans := map[string]api.Loan{
		"fees":     with(func(l *api.Loan) { l.Principal, l.Fees, l.Interest = mostMoney, 1, 0 }),
		"interest": with(func(l *api.Loan) { l.Principal, l.Fees, l.Interest = mostMoney, 0, oneCent }),
		"all":      with(func(l *api.Loan) { l.Principal, l.Fees, l.Interest = mostMoney, mostMoney, api.MaxMicro }),
		"no level": with(func(l *api.Loan) { l.Principal, l.Fees, l.Level, l.Far = mostMoney, 1, 0, 0 }),
	}
	for name, l := range loans {
		for how := api.Standard; how <= api.Graduated; how++ {
			holdsOf(t, name, l, how, 20000, 0, api.ErrRange)
		}
	}
}

// P18.4

// usualPoor is a table of poverty whose lines are 1500 and 2100 cents a year.
var usualPoor = [...]int64{1000, 1400}

func config() api.Config { return api.Config{Months: 120, Poor: slices.Clone(usualPoor[:])} }

// earning is a state by income, told on day 1000: of whom one head may be asked so many cents a month.
func earning(month int64, l ...api.Loan) api.State {
	return api.State{Day: 1000, Loans: l, Plan: api.ByIncome, Since: 1000, Income: 1500 + 120*month, Family: 1}
}

// under is a state of some other plan, in which an income that is none has no say.
func under(how int, l ...api.Loan) api.State {
	return api.State{Loans: l, Plan: how, Since: 1000, Income: -1, Family: 0}
}

func inSchool(id int) api.Loan {
	return api.Loan{Id: id, Principal: 700, Status: api.School, Entered: -1, Level: 7}
}

func paidOff(id int) api.Loan {
	return api.Loan{Id: id, Status: api.Repay, Closed: api.Paid, Level: 7, Far: 3}
}

func holdsAsks(t *testing.T, name string, c api.Config, s api.State, day int, ids []int, asks []int64, f api.Errno) {
	t.Helper()
	got, n, e := plan.Asks(c, s, day)
	if !slices.Equal(got, ids) || !slices.Equal(n, asks) || e != f {
		t.Errorf("%s: Asks(%+v, %+v, %d) = %d, %d, %v; want %d, %d, %v", name, c, s, day, got, n, e, ids, asks, f)
	}
}

type asking struct {
	name string
	s    api.State
	day  int
	ids  []int
	asks []int64
}

func holdAll(t *testing.T, cases []asking) {
	t.Helper()
	for _, c := range cases {
		holdsAsks(t, c.name, config(), c.s, c.day, c.ids, c.asks, api.OK)
	}
}

func TestAsksLoanByLoan(t *testing.T) {
	a, b := owing(1, 50000), owing(2, 90000)
	a.Entered, b.Entered = 1000, -1
	b.Level, b.Far = 2001, 801
	poor := owing(3, 250)
	holdAll(t, []asking{
		{"none was chosen", under(0, a, b), 1000, []int{1, 2}, []int64{1000, 2001}},
		{"standard", under(api.Standard, a, b), 1000, []int{1, 2}, []int64{1000, 2001}},
		{"extended", under(api.Extended, a, b), 1000, []int{1, 2}, []int64{400, 801}},
		{"graduated", under(api.Graduated, a, b), 1000, []int{1, 2}, []int64{600, 1201}},
		{"graduated, a year and a day on", under(api.Graduated, a, b), 1366, []int{1, 2}, []int64{600, 1201}},
		{"graduated, two years on", under(api.Graduated, a, b), 1731, []int{1, 2}, []int64{800, 1201}},
		{"extended, years on", under(api.Extended, a, b), 50000, []int{1, 2}, []int64{400, 801}},
		{"the other way round", under(api.Standard, b, a), 1000, []int{2, 1}, []int64{2001, 1000}},
		{"the same twice", under(api.Standard, a, a), 1000, []int{1, 1}, []int64{1000, 1000}},
		{"one owes less", under(api.Standard, a, poor, b), 1000, []int{1, 3, 2}, []int64{1000, 250, 2001}},
		{"one owes less, extended", under(api.Extended, a, poor, b), 1000, []int{1, 3, 2}, []int64{400, 250, 801}},
		{"one owes less, graduated", under(api.Graduated, a, poor, b), 1000, []int{1, 3, 2}, []int64{600, 250, 1201}},
		{"one alone", under(api.Standard, a), 1000, []int{1}, []int64{1000}},
		{"among others", under(api.Standard, inSchool(4), a, paidOff(5), b, inSchool(6)), 1000, []int{1, 2}, []int64{1000, 2001}},
		{"on the first day", under(api.Graduated, a, b), 0, []int{1, 2}, []int64{600, 1201}},
		{"on the last day", under(api.Graduated, a, b), mostDay, []int{1, 2}, []int64{1500, 1201}},
	})
}

func TestAsksByIncome(t *testing.T) {
	a, b, c := owing(1, 50000), owing(2, 150000), owing(3, 150000)
	bare, other := owing(4, 0), owing(5, 0)
	bare.Fees, other.Fees = 300, 300
	few, fewer := owing(6, 100), owing(7, 300)
	feed := few
	feed.Fees, feed.Interest = 20, 5*oneCent-1
	holdAll(t, []asking{
		{"one alone", earning(100, a), 1000, []int{1}, []int64{100}},
		{"by principals", earning(100, a, b), 1000, []int{1, 2}, []int64{25, 75}},
		{"by principals, the other way round", earning(100, b, a), 1000, []int{2, 1}, []int64{75, 25}},
		{"a cent left over, to the greatest rest", earning(101, a, b), 1000, []int{1, 2}, []int64{25, 76}},
		{"as great rests, to the first", earning(8, b, c, a), 1000, []int{2, 3, 1}, []int64{4, 3, 1}},
		{"just a cent", earning(1, b, c), 1000, []int{2, 3}, []int64{1, 0}},
		{"nothing to ask", earning(0, a, b), 1000, []int{1, 2}, []int64{0, 0}},
		{"among others", earning(100, inSchool(4), a, paidOff(5), b, inSchool(6)), 1000, []int{1, 2}, []int64{25, 75}},
		{"one has no principal", earning(100, a, bare, b), 1000, []int{1, 4, 2}, []int64{25, 0, 75}},
		{"none has principal", earning(100, bare, other), 1000, []int{4, 5}, []int64{0, 0}},
		{"none that takes part has", earning(100, inSchool(9), bare), 1000, []int{4}, []int64{0}},
		{"each at most what it owes", earning(1000, few, fewer), 1000, []int{6, 7}, []int64{100, 300}},
		{"one at most what it owes", earning(1000, feed, fewer), 1000, []int{6, 7}, []int64{124, 300}},
		{"what one can't take, none other does", earning(480, feed, few, few, few), 1000, []int{6, 6, 6, 6}, []int64{120, 100, 100, 100}},
		{"whatever its levels are", earning(90000, a), 1000, []int{1}, []int64{50000}},
		{"ahead of it", earning(100, a, b), 0, []int{1, 2}, []int64{25, 75}},
		{"the last day", earning(100, a, b), 1364, []int{1, 2}, []int64{25, 75}},
		{"a year on", earning(100, a, b), 1365, []int{1, 2}, []int64{1000, 1000}},
		{"years on", earning(100, a, b), mostDay, []int{1, 2}, []int64{1000, 1000}},
	})
}

// TestAsksByFamily: who is of a greater one is asked less, and what is asked is rounded as income has it.
func TestAsksByFamily(t *testing.T) {
	for _, c := range []struct {
		family int
		earned int64
		want   int64
	}{
		{1, 13500, 100}, {2, 13500, 95}, {30, 13500, 95}, {1, 1560, 0}, {1, 1561, 1}, {1, 1680, 2}, {1, 1500, 0}, {1, 0, 0},
		{2, 2161, 1}, {2, 1561, 0}, {1, api.MaxAmount, 8333321}, {30, api.MaxAmount, 8333316},
	} {
		s := earning(0, owing(1, mostMoney/2), paidOff(2))
		s.Family, s.Income = c.family, c.earned
		holdsAsks(t, "by family", config(), s, 1000, []int{1}, []int64{c.want}, api.OK)
	}
}

// TestAsksNone: none takes part, so that nothing is asked of income, and no plan has a say.
func TestAsksNone(t *testing.T) {
	for _, how := range []int{math.MinInt, -1, 0, 1, 2, 3, 4, 5, math.MaxInt} {
		for _, day := range []int{0, 1000, 1366, mostDay} {
			for _, l := range [][]api.Loan{nil, {}, {inSchool(1)}, {paidOff(1)}, {inSchool(1), paidOff(2), inSchool(3)}} {
				holdsAsks(t, "none takes part", config(), under(how, l...), day, nil, nil, api.OK)
			}
			for name, l := range outside() {
				holdsAsks(t, name, config(), under(how, l), day, nil, nil, api.OK)
				l.Level, l.Far = mostMoney, mostMoney
				holdsAsks(t, name, config(), under(how, l), day, nil, nil, api.OK)
			}
		}
	}
}

func refusedAsks(t *testing.T, name string, c api.Config, s api.State, day int, f api.Errno) {
	t.Helper()
	holdsAsks(t, name, c, s, day, nil, nil, f)
}

// states have some that take part, or none, under all plans.
func states() []api.State {
	var l []api.State
	for how := -1; how <= 6; how++ {
		for _, loans := range [][]api.Loan{nil, {inSchool(1)}, {owing(1, 5000)}, {owing(1, 5000), paidOff(2), owing(3, 0)}} {
			s := earning(100, loans...)
			s.Plan = how
			l = append(l, s)
		}
	}
	return l
}

func TestAsksOfWrongTables(t *testing.T) {
	wrong := [][]int64{nil, {}, {-1}, {2, 1}, {api.MaxAmount + 1}, {0, math.MaxInt64}, {math.MinInt64}, make([]int64, 31)}
	for _, s := range states() {
		for _, poor := range wrong {
			for _, day := range []int{0, 1000, 1366} {
				refusedAsks(t, "wrong table", api.Config{Months: 120, Poor: poor}, s, day, api.ErrArg)
			}
		}
		s.Loans = nil
		holdsAsks(t, "the greatest table", api.Config{Poor: make([]int64, 30)}, s, 1000, nil, nil, api.OK)
	}
}

func TestAsksOnWrongDays(t *testing.T) {
	for _, s := range states() {
		for _, day := range []int{math.MinInt, -2, -1, mostDay + 1, 1 << 32, math.MaxInt} {
			refusedAsks(t, "no day", config(), s, day, api.ErrArg)
		}
	}
}

func TestAsksOfBadLoans(t *testing.T) {
	for name, bad := range bads() {
		for _, s := range states() {
			for i := range len(s.Loans) + 1 {
				one := s
				one.Loans = slices.Insert(slices.Clone(s.Loans), i, bad)
				refusedAsks(t, name, config(), one, 1000, api.ErrArg)
				if name != "no status" && name != "a sixth status" {
					one.Loans[i].Status = api.School
					refusedAsks(t, name+", in school", config(), one, 1000, api.ErrArg)
				}
			}
		}
	}
}

func TestAsksOfWrongPlans(t *testing.T) {
	for _, how := range []int{math.MinInt, -4, -1, 5, 6, 1<<32 + 1, math.MaxInt} {
		for _, day := range []int{0, 1000, 1366, mostDay} {
			refusedAsks(t, "no such plan", config(), under(how, owing(1, 5000)), day, api.ErrArg)
			refusedAsks(t, "no such plan", config(), under(how, inSchool(1), owing(2, 0)), day, api.ErrArg)
		}
	}
}

func TestAsksOfWrongIncomes(t *testing.T) {
	for _, wrong := range []struct {
		family int
		earned int64
	}{
		{0, 5000}, {-1, 5000}, {31, 5000}, {math.MinInt, 5000}, {math.MaxInt, 5000},
		{1, -1}, {1, api.MaxAmount + 1}, {30, math.MaxInt64}, {2, math.MinInt64}, {0, -1},
	} {
		for _, principal := range []int64{0, 5000} {
			s := earning(100, inSchool(1), owing(2, principal), paidOff(3))
			s.Family, s.Income = wrong.family, wrong.earned
			refusedAsks(t, "wrong income", config(), s, 1000, api.ErrArg)
			refusedAsks(t, "wrong income, ahead of it", config(), s, 0, api.ErrArg)
			holdsAsks(t, "wrong income, a year on", config(), s, 1366, []int{2}, []int64{min(1000, principal)}, api.OK)
			s.Since = mostDay
			holdsAsks(t, "wrong income, whose end is no day", config(), s, mostDay, []int{2}, []int64{min(1000, principal)}, api.OK)
			s.Since, s.Loans = 1000, []api.Loan{inSchool(1), paidOff(3)}
			holdsAsks(t, "wrong income, none takes part", config(), s, 1000, nil, nil, api.OK)
		}
	}
}

// TestAsksOfTooMuch: the principals are no weights, if they are together no money.
func TestAsksOfTooMuch(t *testing.T) {
	just := []api.Loan{owing(1, mostMoney-5000), owing(2, 5000), paidOff(3)}
	holdsAsks(t, "together money", config(), earning(1000000, just...), 1000, []int{1, 2}, []int64{1000000, 0}, api.OK)
	more := append(slices.Clone(just), owing(4, 1))
	refusedAsks(t, "together no money", config(), earning(1000000, more...), 1000, api.ErrArg)
	refusedAsks(t, "together no money, nothing to ask", config(), earning(0, more...), 1000, api.ErrArg)
	holdsAsks(t, "together no money, standard", config(), under(api.Standard, more...), 1000,
		[]int{1, 2, 4}, []int64{1000, 1000, 1}, api.OK)
	more[3].Status = api.Deferment
	holdsAsks(t, "those that take part are money", config(), earning(1000000, more...), 1000,
		[]int{1, 2}, []int64{1000000, 0}, api.OK)
}

func TestAsksOfOwingTooMuch(t *testing.T) {
	over := owing(2, mostMoney-5000)
	over.Fees = 5001
	for _, l := range [][]api.Loan{{over}, {over, owing(3, 5000)}, {owing(1, 5000), over}, {inSchool(1), over, paidOff(3)}} {
		for how := api.Standard; how <= api.ByIncome; how++ {
			s := earning(100, l...)
			s.Plan = how
			refusedAsks(t, "one owes no money", config(), s, 1000, api.ErrRange)
		}
	}
	// Behind what is shared out: that comes first.
	refusedAsks(t, "together no money either", config(), earning(100, over, owing(3, 5001)), 1000, api.ErrArg)
	s := earning(100, over)
	s.Family = 0
	refusedAsks(t, "no family either", config(), s, 1000, api.ErrArg)
	bare := owing(4, 0)
	bare.Fees, bare.Interest = mostMoney, oneCent
	refusedAsks(t, "no principal, and no money", config(), earning(100, bare), 1000, api.ErrRange)
	over.Status = api.Forbear
	holdsAsks(t, "one that takes no part", config(), under(api.Standard, over, owing(3, 5000)), 1000, []int{3}, []int64{1000}, api.OK)
}

func TestAsksOfStepsTooGreat(t *testing.T) {
	risen := owing(2, 5000)
	risen.Level = mostMoney
	for _, l := range [][]api.Loan{{risen}, {risen, owing(3, 5000)}, {owing(1, 5000), risen}} {
		refusedAsks(t, "a step beyond money", config(), under(api.Graduated, l...), mostDay, api.ErrRange)
	}
	holdsAsks(t, "no step", config(), under(api.Standard, risen), mostDay, []int{2}, []int64{5000}, api.OK)
	holdsAsks(t, "an early step", config(), under(api.Graduated, risen), 100, []int{2}, []int64{5000}, api.OK)
}

// crowd is many loans that take part, all with the same Id.
func crowd(many int, principal int64) []api.Loan {
	return slices.Repeat([]api.Loan{owing(9, principal)}, many)
}

func TestAsksOfMany(t *testing.T) {
	ids, ones := slices.Repeat([]int{9}, 1001), slices.Repeat([]int64{1}, 1001)
	holdsAsks(t, "a thousand", config(), earning(1000, crowd(1000, 5)...), 1000, ids[:1000], ones[:1000], api.OK)
	refusedAsks(t, "too many to share", config(), earning(1000, crowd(1001, 5)...), 1000, api.ErrArg)
	holdsAsks(t, "too many, of nothing", config(), earning(1000, crowd(1001, 0)...), 1000, ids, make([]int64, 1001), api.OK)
	holdsAsks(t, "many, standard", config(), under(api.Standard, crowd(1001, 1)...), 1000, ids, ones, api.OK)
	some := append(crowd(1000, 5), inSchool(1), paidOff(2))
	holdsAsks(t, "a thousand among others", config(), earning(1000, some...), 1000, ids[:1000], ones[:1000], api.OK)
}

// modelSplit goes cent by cent, by numbers of any length; not nil, if the weights are together above 0.
func modelSplit(total int64, weights []int64) []int64 {
	sum := new(big.Int)
	for _, w := range weights {
		sum.Add(sum, big.NewInt(w))
	}
	if sum.Sign() == 0 {
		return make([]int64, len(weights))
	}
	parts, rests := make([]int64, len(weights)), make([]*big.Int, len(weights))
	left := total
	for i, w := range weights {
		q, r := new(big.Int).QuoRem(new(big.Int).Mul(big.NewInt(total), big.NewInt(w)), sum, new(big.Int))
		parts[i], rests[i] = q.Int64(), r
		left -= parts[i]
	}
	for ; left > 0; left-- {
		best := 0
		for i, r := range rests {
			if r.Cmp(rests[best]) > 0 {
				best = i
			}
		}
		parts[best]++
		rests[best] = big.NewInt(-1)
	}
	return parts
}

// modelAsks is of a configuration, a state and a day in which nothing is wrong.
func modelAsks(c api.Config, s api.State, day int) (ids []int, asks []int64) {
	var weights []int64
	for _, l := range s.Loans {
		if l.Closed == 0 && l.Status == 5 {
			ids, weights = append(ids, l.Id), append(weights, l.Principal)
		}
	}
	how := modelHolds(s.Plan, s.Since, day)
	month, _ := income.Ask(c.Poor, s.Family, s.Income)
	shares := modelSplit(month, weights)
	for _, l := range s.Loans {
		if l.Closed != 0 || l.Status != 5 {
			continue
		}
		ask, _ := modelOf(l, how, day)
		if how == api.ByIncome {
			ask, shares = min(shares[0], owesOf(l).Int64()), shares[1:]
		}
		asks = append(asks, ask)
	}
	return ids, asks
}

// anyLoan is a good loan, whose numbers are of all sizes.
func anyLoan(r *rand.Rand) api.Loan {
	size := func() int64 { return r.Int63n(int64(1) << (1 + r.Intn(36))) }
	l := api.Loan{
		Id: 1 + r.Intn(1000), Principal: size(), Interest: size() * oneCent / 100, Fees: r.Int63n(1 << r.Intn(20)),
		Ppm: r.Intn(250001), Subsidised: r.Intn(2) == 0, Status: api.Repay, Entered: r.Intn(mostDay+2) - 1,
		Level: size(), Far: size(), Count: r.Intn(200),
	}
	switch r.Intn(6) {
	case 0:
		l.Status = 1 + r.Intn(4)
	case 1:
		l.Principal, l.Interest, l.Fees, l.Closed = 0, 0, 0, 1+r.Intn(4)
	case 2:
		l.Principal = 0
	}
	return l
}

// anyState is one in which nothing is wrong; day is mostly some year behind its plan.
func anyState(r *rand.Rand) (c api.Config, s api.State, day int) {
	c.Poor = []int64{r.Int63n(2000000)}
	for range r.Intn(30) {
		c.Poor = append(c.Poor, c.Poor[len(c.Poor)-1]+r.Int63n(600000))
	}
	s.Plan, s.Since, s.Family = r.Intn(5), r.Intn(mostDay+1), 1+r.Intn(30)
	s.Income = r.Int63n(int64(1) << (1 + r.Intn(29)))
	for range r.Intn(api.MaxLoans + 1) {
		s.Loans = append(s.Loans, anyLoan(r))
	}
	day = min(s.Since+r.Intn(600), mostDay)
	if r.Intn(4) == 0 {
		day = r.Intn(mostDay + 1)
	}
	return c, s, day
}

func TestManyAgainstModel(t *testing.T) {
	r := rand.New(rand.NewSource(18))
	for range 20000 {
		c, s, day := anyState(r)
		ids, asks := modelAsks(c, s, day)
		holdsAsks(t, "any", c, s, day, ids, asks, api.OK)
		for _, l := range s.Loans {
			for how := api.Standard; how <= api.Graduated; how++ {
				want, f := modelOf(l, how, day)
				holdsOf(t, "any", l, how, day, want, f)
			}
		}
		if t.Failed() {
			return
		}
	}
}

// TestAsksTwice: what is told is new memory, spare room and all, and what was handed in stays.
func TestAsksTwice(t *testing.T) {
	room := []api.Loan{owing(1, 50000), inSchool(2), owing(3, 150000), paidOff(4), owing(5, 7), owing(6, 0), {Id: -1}}
	wasRoom := slices.Clone(room)
	poor := []int64{1000, 1400, 3, 2, 1}
	wasPoor := slices.Clone(poor)
	c := api.Config{Months: 5, Poor: poor[:2]}
	for how := 0; how <= api.ByIncome; how++ {
		s := earning(100, room[:4]...)
		s.Plan = how
		ids, asks, e := plan.Asks(c, s, 1000)
		wasIds, wasAsks := slices.Clone(ids), slices.Clone(asks)
		for i := range ids[:cap(ids)] {
			ids[:cap(ids)][i] = -7
		}
		holdsAsks(t, "behind Ids that were overwritten", c, s, 1000, wasIds, wasAsks, e)
		for i := range asks[:cap(asks)] {
			asks[:cap(asks)][i] = -7
		}
		holdsAsks(t, "behind asks that were overwritten", c, s, 1000, wasIds, wasAsks, e)
		if !slices.Equal(wasIds, []int{1, 3}) || e != api.OK {
			t.Errorf("of plan %d: Asks = %d, %d, %v", how, wasIds, wasAsks, e)
		}
	}
	if !slices.Equal(room, wasRoom) || !slices.Equal(poor, wasPoor) {
		t.Errorf("what was handed in is now %+v, %d", room, poor)
	}
}

// P18.5

func TestNoneIsAskedMoreThanItOwes(t *testing.T) {
	r := rand.New(rand.NewSource(185))
	for range 20000 {
		c, s, day := anyState(r)
		owed := map[int]int64{}
		for i := range s.Loans {
			s.Loans[i].Id = i + 1
			owed[i+1] = owesOf(s.Loans[i]).Int64()
		}
		ids, asks, e := plan.Asks(c, s, day)
		if e != api.OK || len(ids) != len(asks) {
			t.Fatalf("Asks(%+v, %+v, %d) = %d, %d, %v", c, s, day, ids, asks, e)
		}
		for i, id := range ids {
			if asks[i] < 0 || asks[i] > owed[id] {
				t.Fatalf("Asks(%+v, %+v, %d): of %d is asked %d; it owes %d", c, s, day, id, asks[i], owed[id])
			}
		}
	}
}

func TestByIncomeNoMoreThanTheTenth(t *testing.T) {
	r := rand.New(rand.NewSource(186))
	whole := 0
	for range 20000 {
		c, s, _ := anyState(r)
		s.Plan, s.Since = api.ByIncome, 1000
		_, asks, e := plan.Asks(c, s, 1000+r.Intn(365))
		month, f := income.Ask(c.Poor, s.Family, s.Income)
		sum := int64(0)
		for _, n := range asks {
			sum += n
		}
		if e != api.OK || f != api.OK || sum > month {
			t.Fatalf("Asks(%+v, %+v) = %d, %v: together %d; the tenth is %d, %v", c, s, asks, e, sum, month, f)
		}
		if sum == month && month > 0 {
			whole++
		}
	}
	if whole < 1000 {
		t.Errorf("just %d times the whole tenth was asked", whole)
	}
}
