package loan_test

import (
	"math"
	"math/big"
	"math/rand"
	"testing"

	"annuity/api"
	"annuity/loan"
)

const (
	mostMoney  = api.MaxMoney
	mostMicro  = api.MaxMicro
	mostAmount = api.MaxAmount
	mostDay    = api.MaxDay
	// mostCents is the whole cents of the most interest.
	mostCents = mostMicro / api.Micro
	// tenDays is the interest of ten days of the loan that usual tells.
	tenDays = 10 * 136986301
)

// usual is an open loan in repayment, in which no field is 0 but Closed.
func usual() api.Loan {
	return api.Loan{
		Id: 7, Principal: 1000000, Interest: 2500000, Subsidy: 3700000, Fees: 500, Ppm: 50000, Subsidised: true,
		Status: api.Repay, Entered: 900, Level: 10607, Far: 5846, Count: 12,
	}
}

// with is the usual loan, changed.
func with(change func(l *api.Loan)) api.Loan {
	l := usual()
	change(&l)
	return l
}

// shut is a loan that is closed.
func shut(how int) api.Loan {
	return with(func(l *api.Loan) { l.Principal, l.Interest, l.Fees, l.Closed = 0, 0, 0, how })
}

// young is a loan that never has been in repayment.
func young(status int) api.Loan {
	return with(func(l *api.Loan) { l.Status, l.Entered = status, -1 })
}

// brimming is a loan with the most of all.
func brimming() api.Loan {
	return with(func(l *api.Loan) {
		*l = api.Loan{
			Id: 1000, Principal: mostMoney, Interest: mostMicro, Subsidy: mostMicro, Fees: mostMoney, Ppm: api.MaxPpm,
			Status: api.Repay, Entered: mostDay, Level: mostMoney, Far: mostMoney, Count: math.MaxInt,
		}
	})
}

// bare is a loan with the least of all.
func bare() api.Loan { return api.Loan{Id: 1, Status: api.School, Entered: -1} }

// fields are the numbers of a loan, each with its bounds.
func fields() []field {
	return []field{
		{"Id", 1, 1000, func(l *api.Loan, n int64) { l.Id = int(n) }},
		{"Principal", 0, mostMoney, func(l *api.Loan, n int64) { l.Principal = n }},
		{"Interest", 0, mostMicro, func(l *api.Loan, n int64) { l.Interest = n }},
		{"Subsidy", 0, mostMicro, func(l *api.Loan, n int64) { l.Subsidy = n }},
		{"Fees", 0, mostMoney, func(l *api.Loan, n int64) { l.Fees = n }},
		{"Ppm", 0, api.MaxPpm, func(l *api.Loan, n int64) { l.Ppm = int(n) }},
		{"Status", 1, 5, func(l *api.Loan, n int64) { l.Status = int(n) }},
		{"Entered", -1, mostDay, func(l *api.Loan, n int64) { l.Entered = int(n) }},
		{"Level", 0, mostMoney, func(l *api.Loan, n int64) { l.Level = n }},
		{"Far", 0, mostMoney, func(l *api.Loan, n int64) { l.Far = n }},
		{"Count", 0, math.MaxInt, func(l *api.Loan, n int64) { l.Count = int(n) }},
	}
}

type field struct {
	name        string
	least, most int64
	set         func(l *api.Loan, n int64)
}

// beyond are numbers that the field can't have.
func (f field) beyond() []int64 {
	l := []int64{f.least - 1, f.least - 2, -1 << 32, math.MinInt64, math.MinInt64 + 1}
	if f.most < math.MaxInt64 {
		l = append(l, f.most+1, f.most+2, f.most+1<<32, math.MaxInt64)
	}
	return l
}

func inside(f field) []int64 {
	return []int64{f.least, f.least + 1, f.least + (f.most-f.least)/2, f.most - 1, f.most}
}

// bads are loans of all kinds that are not good.
func bads() []api.Loan {
	l := []api.Loan{{}}
	for _, f := range fields() {
		for _, n := range f.beyond() {
			l = append(l, with(func(x *api.Loan) { f.set(x, n) }))
		}
	}
	for _, how := range []int{-1, 5, math.MinInt, math.MaxInt, 1<<32 + 1} {
		l = append(l, shut(how))
	}
	for how := api.Paid; how <= api.Consolidated; how++ {
		for _, set := range []func(l *api.Loan){
			func(l *api.Loan) { l.Principal = 1 },
			func(l *api.Loan) { l.Interest = 1 }, // also what is less than a cent
			func(l *api.Loan) { l.Fees = 1 },
		} {
			x := shut(how)
			set(&x)
			l = append(l, x)
		}
	}
	return l
}

// told holds what a call told of a loan against what it shall tell.
func told(t *testing.T, what string, got api.Loan, e api.Errno, want api.Loan, f api.Errno) {
	t.Helper()
	if got != want || e != f {
		t.Fatalf("%s is %v, %v, not %v, %v", what, got, e, want, f)
	}
}

// refused holds that a call told an error, and nothing beside it.
func refused(t *testing.T, what string, got api.Loan, e, f api.Errno) {
	t.Helper()
	told(t, what, got, e, api.Loan{}, f)
}

// owing is what a loan owes, in numbers of any length.
func owing(l api.Loan) *big.Int {
	n := big.NewInt(l.Principal)
	return n.Add(n, big.NewInt(l.Fees)).Add(n, big.NewInt(l.Interest/api.Micro))
}

// P14.1

func TestGood(t *testing.T) {
	for _, l := range []api.Loan{usual(), brimming(), bare(), young(api.School), shut(api.Paid)} {
		if !loan.Good(l) {
			t.Errorf("%v is not good", l)
		}
		l.Subsidised = !l.Subsidised
		if !loan.Good(l) {
			t.Errorf("%v is not good", l)
		}
	}
	for _, f := range fields() {
		for _, n := range inside(f) {
			if l := with(func(l *api.Loan) { f.set(l, n) }); !loan.Good(l) {
				t.Errorf("%s %d: not good", f.name, n)
			}
		}
	}
	for _, l := range bads() {
		if loan.Good(l) {
			t.Errorf("%v is good", l)
		}
	}
}

// What else a closed loan has stays good, up to its bounds.
func TestGoodOfClosed(t *testing.T) {
	for how := api.Paid; how <= api.Consolidated; how++ {
		for _, f := range fields() {
			if f.name == "Principal" || f.name == "Interest" || f.name == "Fees" {
				continue
			}
			for _, n := range inside(f) {
				l := shut(how)
				f.set(&l, n)
				if !loan.Good(l) {
					t.Errorf("closed as %d, %s %d: not good", how, f.name, n)
				}
			}
			for _, n := range f.beyond() {
				l := shut(how)
				f.set(&l, n)
				if loan.Good(l) {
					t.Errorf("closed as %d, %s %d: good", how, f.name, n)
				}
			}
		}
	}
}

// A loan that is not good comes ahead of all that might be told else.
func TestBadLoans(t *testing.T) {
	for _, l := range bads() {
		n, e := loan.Owes(l)
		refused(t, "Owes", api.Loan{Principal: n}, e, api.ErrArg)
		x, e := loan.Accrue(l, 1)
		refused(t, "Accrue", x, e, api.ErrArg)
		x, e = loan.Accrue(l, 0)
		refused(t, "Accrue", x, e, api.ErrArg)
		for status := range 7 {
			x, e = loan.Turn(l, status, 5)
			refused(t, "Turn", x, e, api.ErrArg)
		}
		x, e = loan.Fee(l, 1)
		refused(t, "Fee", x, e, api.ErrArg)
		x, e = loan.Draw(l, 1)
		refused(t, "Draw", x, e, api.ErrArg)
		x, e = loan.Pay(l, 0, 0, 0)
		refused(t, "Pay", x, e, api.ErrArg)
		x, e = loan.Pay(l, mostMoney+1, 0, 0)
		refused(t, "Pay", x, e, api.ErrArg)
		x, n, e = loan.Close(l, api.Paid)
		x.Principal += n
		refused(t, "Close", x, e, api.ErrArg)
		x, e = loan.Capitalize(l)
		refused(t, "Capitalize", x, e, api.ErrArg)
	}
}

func TestOwes(t *testing.T) {
	for _, x := range []struct {
		principal, interest, fees, want int64
		e                               api.Errno
	}{
		{0, 0, 0, 0, api.OK},
		{1, 0, 0, 1, api.OK},
		{0, 0, 1, 1, api.OK},
		{0, api.Micro - 1, 0, 0, api.OK},
		{0, api.Micro, 0, 1, api.OK},
		{0, 2*api.Micro - 1, 0, 1, api.OK},
		{100, 2500000, 30, 132, api.OK},
		{0, mostMicro, 0, mostCents, api.OK},
		{mostMoney, api.Micro - 1, 0, mostMoney, api.OK},
		{mostMoney, api.Micro, 0, 0, api.ErrRange},
		{mostMoney, 0, 1, 0, api.ErrRange},
		{1, 0, mostMoney, 0, api.ErrRange},
		{0, api.Micro, mostMoney, 0, api.ErrRange},
		{0, api.Micro - 1, mostMoney, mostMoney, api.OK},
		{mostMoney - mostCents - 5, mostMicro, 5, mostMoney, api.OK},
		{mostMoney - mostCents - 5, mostMicro, 6, 0, api.ErrRange},
		{mostMoney - mostCents - 5, mostMicro - 1, 6, mostMoney, api.OK},
		{mostMoney, mostMicro, mostMoney, 0, api.ErrRange},
	} {
		l := with(func(l *api.Loan) { l.Principal, l.Interest, l.Fees = x.principal, x.interest, x.fees })
		if n, e := loan.Owes(l); n != x.want || e != x.e {
			t.Errorf("Owes of %d, %d, %d is %d, %v, not %d, %v", x.principal, x.interest, x.fees, n, e, x.want, x.e)
		}
	}
	for how := api.Paid; how <= api.Consolidated; how++ { // what somebody else paid is not owed
		if n, e := loan.Owes(shut(how)); n != 0 || e != api.OK {
			t.Errorf("Owes, closed as %d, is %d, %v", how, n, e)
		}
	}
}

func TestAccrueByStatus(t *testing.T) {
	for status := api.School; status <= api.Repay; status++ {
		for _, subsidised := range []bool{false, true} {
			for _, entered := range []int{-1, 900} {
				l := with(func(l *api.Loan) { l.Status, l.Subsidised, l.Entered = status, subsidised, entered })
				want := l
				if subsidised && (status == api.School || status == api.Grace || status == api.Deferment) {
					want.Subsidy += tenDays
				} else {
					want.Interest += tenDays
				}
				got, e := loan.Accrue(l, 10)
				told(t, "Accrue", got, e, want, api.OK)
			}
		}
	}
}

func TestAccrueDays(t *testing.T) {
	for _, l := range []api.Loan{usual(), young(api.Grace), bare()} {
		got, e := loan.Accrue(l, 0)
		told(t, "Accrue of no days", got, e, l, api.OK)
		for _, days := range []int{-1, mostDay + 1, math.MinInt, math.MaxInt, 1 << 32, 1<<32 + 1} {
			got, e = loan.Accrue(l, days)
			refused(t, "Accrue of too many days", got, e, api.ErrArg)
		}
		want, day := l, int64(0)
		if l.Principal > 0 {
			day = tenDays / 10
		}
		if l.Status == api.Grace {
			want.Subsidy += mostDay * day
		} else {
			want.Interest += mostDay * day
		}
		got, e = loan.Accrue(l, mostDay)
		told(t, "Accrue of all days", got, e, want, api.OK)
	}
	l := with(func(l *api.Loan) { l.Ppm = 0 })
	got, e := loan.Accrue(l, 10)
	told(t, "Accrue at no rate", got, e, l, api.OK)
}

// Interest is on Principal alone: neither on fees nor on interest.
func TestAccrueOnPrincipalAlone(t *testing.T) {
	l := with(func(l *api.Loan) { l.Principal = 0 })
	got, e := loan.Accrue(l, 10)
	told(t, "Accrue on nothing", got, e, l, api.OK)
	l = with(func(l *api.Loan) { l.Fees, l.Interest, l.Subsidy = 0, 0, 0 })
	got, e = loan.Accrue(l, 10)
	told(t, "Accrue", got, e, with(func(l *api.Loan) { l.Fees, l.Interest, l.Subsidy = 0, tenDays, 0 }), api.OK)
}

func TestAccrueOfClosed(t *testing.T) {
	for how := api.Paid; how <= api.Consolidated; how++ {
		for _, days := range []int{0, 1, mostDay} {
			got, e := loan.Accrue(shut(how), days)
			told(t, "Accrue of a closed loan", got, e, shut(how), api.OK)
		}
		for _, days := range []int{-1, mostDay + 1} {
			got, e := loan.Accrue(shut(how), days)
			refused(t, "Accrue of a closed loan", got, e, api.ErrArg)
		}
	}
}

func TestAccrueAtTheBound(t *testing.T) {
	for _, status := range []int{api.Grace, api.Forbear} {
		l := with(func(l *api.Loan) { l.Status, l.Interest, l.Subsidy = status, mostMicro-tenDays, mostMicro-tenDays })
		want := l
		if status == api.Grace {
			want.Subsidy = mostMicro
		} else {
			want.Interest = mostMicro
		}
		got, e := loan.Accrue(l, 10)
		told(t, "Accrue up to the bound", got, e, want, api.OK)
		got, e = loan.Accrue(want, 0)
		told(t, "Accrue at the bound", got, e, want, api.OK)
		got, e = loan.Accrue(want, 1)
		refused(t, "Accrue beyond the bound", got, e, api.ErrRange)
		l.Interest, l.Subsidy = l.Interest+1, l.Subsidy+1
		got, e = loan.Accrue(l, 10)
		refused(t, "Accrue beyond the bound", got, e, api.ErrRange)
		got, e = loan.Accrue(l, -1)
		refused(t, "Accrue of days below 0", got, e, api.ErrArg)
	}
	got, e := loan.Accrue(brimming(), mostDay)
	refused(t, "Accrue of the most", got, e, api.ErrRange)
}

// P14.2

// mayTurn is which statuses follow which, of loans that never were in repayment, and of those that were.
func mayTurn(entered bool) [6]string {
	if entered { // by the status that it has: those that it may come into
		return [6]string{"", "345", "345", "45", "35", "34"}
	}
	return [6]string{"", "2345", "345", "1245", "1235", "1234"}
}

func TestTurnTable(t *testing.T) {
	for from := api.School; from <= api.Repay; from++ {
		for _, entered := range []int{-1, 0, 1, 900, mostDay} {
			may := mayTurn(entered >= 0)[from]
			for status := -1; status <= 7; status++ {
				l := with(func(l *api.Loan) { l.Status, l.Entered = from, entered })
				want, f := api.Loan{}, api.ErrStatus
				for _, c := range may {
					if int(c-'0') == status {
						want, f = l, api.OK
						want.Status = status
					}
				}
				if f == api.OK && status == api.Repay {
					want.Principal, want.Interest, want.Entered = l.Principal+2, 500000, 1234
				}
				got, e := loan.Turn(l, status, 1234)
				told(t, "Turn", got, e, want, f)
			}
		}
	}
}

func TestTurnStatuses(t *testing.T) {
	for _, l := range []api.Loan{usual(), young(api.School), bare()} {
		for _, status := range []int{-1, 0, 6, 7, math.MinInt, math.MaxInt, 1<<32 + api.Deferment, l.Status} {
			got, e := loan.Turn(l, status, 5)
			refused(t, "Turn to no status, or to the same", got, e, api.ErrStatus)
		}
	}
}

func TestTurnDays(t *testing.T) {
	for status := -1; status <= 7; status++ {
		for _, l := range []api.Loan{usual(), young(api.Grace), shut(api.Paid), brimming()} {
			for _, day := range []int{-1, mostDay + 1, math.MinInt, math.MaxInt, 1 << 32} {
				got, e := loan.Turn(l, status, day)
				refused(t, "Turn on no day", got, e, api.ErrArg)
			}
		}
	}
	for _, day := range []int{0, 1, 899, 900, 901, mostDay} { // also ahead of the day on which it entered last
		l := with(func(l *api.Loan) { l.Status = api.Forbear })
		want := with(func(l *api.Loan) { l.Principal, l.Interest, l.Entered = 1000002, 500000, day })
		got, e := loan.Turn(l, api.Repay, day)
		told(t, "Turn into repayment", got, e, want, api.OK)
		got, e = loan.Turn(usual(), api.Deferment, day)
		told(t, "Turn out of repayment", got, e, with(func(l *api.Loan) { l.Status = api.Deferment }), api.OK)
	}
}

func TestTurnOfClosed(t *testing.T) {
	for how := api.Paid; how <= api.Consolidated; how++ {
		for status := -1; status <= 7; status++ {
			got, e := loan.Turn(shut(how), status, 5)
			refused(t, "Turn of a closed loan", got, e, api.ErrGone)
		}
	}
}

func TestTurnCapitalizes(t *testing.T) {
	for _, x := range []struct {
		principal, interest, sum, rest int64
		e                              api.Errno
	}{
		{100, 2500000, 102, 500000, api.OK},
		{100, 0, 100, 0, api.OK},
		{100, api.Micro - 1, 100, api.Micro - 1, api.OK},
		{100, api.Micro, 101, 0, api.OK},
		{0, mostMicro, mostCents, 0, api.OK},
		{mostMoney, api.Micro - 1, mostMoney, api.Micro - 1, api.OK},
		{mostMoney - 2, 2999999, mostMoney, 999999, api.OK},
		{mostMoney - 2, 3000000, 0, 0, api.ErrRange},
		{mostMoney, api.Micro, 0, 0, api.ErrRange},
		{mostMoney - mostCents, mostMicro, mostMoney, 0, api.OK},
		{mostMoney - mostCents + 1, mostMicro, 0, 0, api.ErrRange},
		{mostMoney, mostMicro, 0, 0, api.ErrRange},
	} {
		l := young(api.Grace)
		l.Principal, l.Interest, l.Fees = x.principal, x.interest, mostMoney // fees do not matter
		want := api.Loan{}
		if x.e == api.OK {
			want = l
			want.Principal, want.Interest = x.sum, x.rest
		}
		got, e := loan.Capitalize(l)
		told(t, "Capitalize", got, e, want, x.e)
		if x.e == api.OK {
			want.Status, want.Entered = api.Repay, 77
		}
		got, e = loan.Turn(l, api.Repay, 77)
		told(t, "Turn into repayment", got, e, want, x.e)
		got, e = loan.Turn(l, api.Forbear, 77) // into all others nothing is capitalized
		l.Status = api.Forbear
		told(t, "Turn", got, e, l, api.OK)
	}
}

func TestCapitalizeOfAnyStatus(t *testing.T) {
	for status := api.School; status <= api.Repay; status++ {
		l := with(func(l *api.Loan) { l.Status = status })
		want := l
		want.Principal, want.Interest = 1000002, 500000
		got, e := loan.Capitalize(l)
		told(t, "Capitalize", got, e, want, api.OK)
		got, e = loan.Capitalize(got)
		told(t, "Capitalize twice", got, e, want, api.OK)
	}
	for how := api.Paid; how <= api.Consolidated; how++ {
		got, e := loan.Capitalize(shut(how))
		refused(t, "Capitalize of a closed loan", got, e, api.ErrGone)
	}
}

func TestFeeAndDraw(t *testing.T) {
	for _, x := range []struct {
		have, amount, want int64
		e                  api.Errno
	}{
		{0, 1, 1, api.OK},
		{0, mostAmount, mostAmount, api.OK},
		{500, 7, 507, api.OK},
		{mostMoney - 1, 1, mostMoney, api.OK},
		{mostMoney, 1, 0, api.ErrRange},
		{mostMoney - mostAmount, mostAmount, mostMoney, api.OK},
		{mostMoney - mostAmount + 1, mostAmount, 0, api.ErrRange},
		{0, 0, 0, api.ErrArg},
		{500, 0, 0, api.ErrArg},
		{500, -1, 0, api.ErrArg},
		{500, -500, 0, api.ErrArg},
		{0, mostAmount + 1, 0, api.ErrArg},
		{mostMoney, mostAmount + 1, 0, api.ErrArg},
		{mostMoney, 0, 0, api.ErrArg},
		{0, mostMoney + 1, 0, api.ErrArg},
		{0, 1<<32 + 1, 0, api.ErrArg},
		{0, math.MinInt64, 0, api.ErrArg},
		{500, math.MaxInt64, 0, api.ErrArg},
	} {
		for status := api.School; status <= api.Repay; status++ {
			l := with(func(l *api.Loan) { l.Status, l.Fees = status, x.have })
			want := api.Loan{}
			if x.e == api.OK {
				want = l
				want.Fees = x.want
			}
			got, e := loan.Fee(l, x.amount)
			told(t, "Fee", got, e, want, x.e)
			l.Fees, l.Principal = mostMoney, x.have // that it owes more than money is does not matter
			if x.e == api.OK {
				want = l
				want.Principal = x.want
			}
			got, e = loan.Draw(l, x.amount)
			told(t, "Draw", got, e, want, x.e)
		}
	}
}

func TestFeeAndDrawOfClosed(t *testing.T) {
	for how := api.Paid; how <= api.Consolidated; how++ {
		for _, amount := range []int64{0, 1, mostAmount, mostAmount + 1, -1} {
			f := api.ErrGone
			if amount < 1 || amount > mostAmount {
				f = api.ErrArg
			}
			got, e := loan.Fee(shut(how), amount)
			refused(t, "Fee of a closed loan", got, e, f)
			got, e = loan.Draw(shut(how), amount)
			refused(t, "Draw of a closed loan", got, e, f)
		}
	}
}

// P14.3

func TestPayByCases(t *testing.T) {
	for _, x := range []struct {
		fees, interest, principal int64
		wantFees, micro, want     int64 // what is left of each
		e                         api.Errno
	}{
		{0, 0, 0, 500, 2500000, 1000000, api.OK},
		{1, 0, 0, 499, 2500000, 1000000, api.OK},
		{500, 0, 0, 0, 2500000, 1000000, api.OK},
		{0, 1, 0, 500, 1500000, 1000000, api.OK},
		{0, 2, 0, 500, 500000, 1000000, api.OK},
		{0, 0, 1, 500, 2500000, 999999, api.OK},
		{0, 0, 1000000, 500, 2500000, 0, api.OK},
		{499, 1, 999999, 1, 1500000, 1, api.OK},
		{499, 2, 1000000, 1, 500000, 0, api.OK},
		{500, 1, 1000000, 0, 1500000, 0, api.OK},
		{500, 2, 999999, 0, 500000, 1, api.OK},
		{501, 0, 0, 0, 0, 0, api.ErrRange},
		{0, 3, 0, 0, 0, 0, api.ErrRange}, // two and a half are there
		{0, 0, 1000001, 0, 0, 0, api.ErrRange},
		{501, 2, 1000000, 0, 0, 0, api.ErrRange},
		{500, 3, 1000000, 0, 0, 0, api.ErrRange},
		{500, 2, 1000001, 0, 0, 0, api.ErrRange},
		{math.MaxInt64, 0, 0, 0, 0, 0, api.ErrRange},
		{0, math.MaxInt64, 0, 0, 0, 0, api.ErrRange},
		{0, 1 << 58, 0, 0, 0, 0, api.ErrRange}, // times a million it would wrap round to 0
		{0, 0, math.MaxInt64, 0, 0, 0, api.ErrRange},
		{-1, 0, 0, 0, 0, 0, api.ErrArg},
		{0, -1, 0, 0, 0, 0, api.ErrArg},
		{0, 0, -1, 0, 0, 0, api.ErrArg},
		{-1, 3, 1000001, 0, 0, 0, api.ErrArg}, // named ahead of ErrRange
		{501, -1, 1000001, 0, 0, 0, api.ErrArg},
		{501, 3, -1, 0, 0, 0, api.ErrArg},
		{math.MinInt64, 0, 0, 0, 0, 0, api.ErrArg},
		{0, math.MinInt64, 0, 0, 0, 0, api.ErrArg},
		{0, 0, math.MinInt64, 0, 0, 0, api.ErrArg},
	} {
		for status := api.School; status <= api.Repay; status++ {
			l := with(func(l *api.Loan) { l.Status = status })
			want := api.Loan{}
			if x.e == api.OK {
				want = l
				want.Fees, want.Interest, want.Principal = x.wantFees, x.micro, x.want
			}
			got, e := loan.Pay(l, x.fees, x.interest, x.principal)
			told(t, "Pay", got, e, want, x.e)
		}
	}
}

// Whoever owes no whole cent any more has paid, whatever is left below a cent, and in whatever status.
func TestPayAll(t *testing.T) {
	for status := api.School; status <= api.Repay; status++ {
		for _, x := range [][3]int64{ // Fees, Interest, Principal
			{500, 2500000, 1000000}, {0, 2500000, 0}, {500, 0, 0}, {0, 0, 1}, {0, api.Micro - 1, 0}, {0, 0, 0},
			{1, api.Micro - 1, 0}, {0, api.Micro, 0}, {0, 2*api.Micro - 1, 1}, {mostMoney, mostMicro, mostMoney},
		} {
			l := with(func(l *api.Loan) { l.Status, l.Fees, l.Interest, l.Principal = status, x[0], x[1], x[2] })
			want := shut(api.Paid)
			want.Status = status
			got, e := loan.Pay(l, x[0], x[1]/api.Micro, x[2])
			told(t, "Pay of all", got, e, want, api.OK)
		}
	}
}

// A loan may owe more than money is, and be paid nevertheless.
func TestPayOfTheMost(t *testing.T) {
	got, e := loan.Pay(brimming(), 0, 0, 0)
	told(t, "Pay of nothing", got, e, brimming(), api.OK)
	want := brimming()
	want.Fees, want.Interest, want.Principal = 1, mostMicro-2*api.Micro, mostMoney-3
	got, e = loan.Pay(brimming(), mostMoney-1, 2, 3)
	told(t, "Pay", got, e, want, api.OK)
	got, e = loan.Pay(brimming(), mostMoney+1, 0, 0)
	refused(t, "Pay of too much", got, e, api.ErrRange)
	got, e = loan.Pay(brimming(), 0, mostCents+1, 0)
	refused(t, "Pay of too much", got, e, api.ErrRange)
}

func TestPayOfClosed(t *testing.T) {
	for how := api.Paid; how <= api.Consolidated; how++ {
		for _, x := range [][3]int64{{0, 0, 0}, {1, 0, 0}, {0, 1, 0}, {0, 0, 1}} {
			got, e := loan.Pay(shut(how), x[0], x[1], x[2])
			refused(t, "Pay of a closed loan", got, e, api.ErrGone)
			got, e = loan.Pay(shut(how), -x[0], -x[1], -x[2]-1)
			refused(t, "Pay below 0 of a closed loan", got, e, api.ErrArg)
		}
	}
}

// closes holds Close against what it shall tell.
func closes(t *testing.T, l api.Loan, how int, want api.Loan, owed int64, f api.Errno) {
	t.Helper()
	got, n, e := loan.Close(l, how)
	if got != want || n != owed || e != f {
		t.Fatalf("Close(%v, %d) is %v, %d, %v, not %v, %d, %v", l, how, got, n, e, want, owed, f)
	}
}

func TestClose(t *testing.T) {
	for how := api.Paid; how <= api.Consolidated; how++ {
		for status := api.School; status <= api.Repay; status++ {
			l, want := usual(), shut(how)
			l.Status, want.Status = status, status
			closes(t, l, how, want, 1000502, api.OK)
			l.Principal, l.Interest, l.Fees = 0, api.Micro-1, 0
			closes(t, l, how, want, 0, api.OK)
			l.Principal, l.Interest, l.Fees = mostMoney-3, 2999999, 1
			closes(t, l, how, want, mostMoney, api.OK)
			l.Fees = 2
			closes(t, l, how, api.Loan{}, 0, api.ErrRange)
			l.Principal, l.Interest, l.Fees = mostMoney, api.Micro, 0
			closes(t, l, how, api.Loan{}, 0, api.ErrRange)
		}
		closes(t, brimming(), how, api.Loan{}, 0, api.ErrRange)
		for was := api.Paid; was <= api.Consolidated; was++ {
			closes(t, shut(was), how, api.Loan{}, 0, api.ErrGone)
		}
	}
	for _, how := range []int{api.Open, -1, 5, 6, math.MinInt, math.MaxInt, 1<<32 + 1} {
		for _, l := range []api.Loan{usual(), shut(api.Paid), brimming()} { // named ahead of ErrGone and ErrRange
			closes(t, l, how, api.Loan{}, 0, api.ErrArg)
		}
	}
}

// An error must leave nothing behind for the call that follows it.
func TestBehindAnError(t *testing.T) {
	for range 3 {
		got, e := loan.Accrue(brimming(), 1)
		refused(t, "Accrue", got, e, api.ErrRange)
		got, e = loan.Capitalize(usual())
		told(t, "Capitalize", got, e, with(func(l *api.Loan) { l.Principal, l.Interest = 1000002, 500000 }), api.OK)
		closes(t, shut(api.Paid), api.Paid, api.Loan{}, 0, api.ErrGone)
		closes(t, usual(), api.Paid, shut(api.Paid), 1000502, api.OK)
	}
}

// P14.4

// some is a number from 0 to most, often at an end or small.
func some(r *rand.Rand, most int64) int64 {
	switch r.Intn(6) {
	case 0:
		return 0
	case 1:
		return most
	case 2:
		return max(0, most-r.Int63n(4000000))
	case 3:
		return r.Int63n(most + 1)
	}
	return min(most, r.Int63n(4000000))
}

// anyLoan is a good one.
func anyLoan(r *rand.Rand) api.Loan {
	l := api.Loan{
		Id: 1 + r.Intn(1000), Principal: some(r, mostMoney), Interest: some(r, mostMicro), Subsidy: some(r, mostMicro),
		Fees: some(r, mostMoney), Ppm: int(some(r, api.MaxPpm)), Subsidised: r.Intn(2) == 0, Status: 1 + r.Intn(5),
		Entered: int(some(r, mostDay+1)) - 1, Level: some(r, mostMoney), Far: some(r, mostMoney), Count: r.Intn(400),
	}
	if r.Intn(8) == 0 {
		l.Principal, l.Interest, l.Fees, l.Closed = 0, 0, 0, 1+r.Intn(4)
	}
	return l
}

// step does something to a loan, and tells by how many millionths of a cent what is owed shall rise then.
func step(r *rand.Rand, l api.Loan) (got api.Loan, rise *big.Int, e api.Errno) {
	cents := func(n int64) *big.Int { return new(big.Int).Mul(big.NewInt(n), big.NewInt(api.Micro)) }
	switch r.Intn(6) {
	case 0:
		days := int(some(r, mostDay))
		got, e = loan.Accrue(l, days)
		daily := new(big.Int).Mul(big.NewInt(l.Principal), big.NewInt(int64(l.Ppm)))
		daily.Quo(daily, big.NewInt(365))
		if l.Subsidised && l.Status <= api.Deferment {
			return got, new(big.Int), e
		}
		return got, daily.Mul(daily, big.NewInt(int64(days))), e
	case 1:
		got, e = loan.Turn(l, r.Intn(7), int(some(r, mostDay)))
		return got, new(big.Int), e
	case 2:
		n := some(r, mostAmount)
		got, e = loan.Fee(l, n)
		return got, cents(n), e
	case 3:
		n := some(r, mostAmount)
		got, e = loan.Draw(l, n)
		return got, cents(n), e
	case 4:
		a, b, c := some(r, l.Fees), some(r, l.Interest/api.Micro), some(r, l.Principal)
		got, e = loan.Pay(l, a, b, c)
		return got, cents(-a - b - c), e
	}
	got, e = loan.Capitalize(l)
	return got, new(big.Int), e
}

// micros is what a loan owes, what stands below a cent with it.
func micros(l api.Loan) *big.Int {
	n := new(big.Int).Add(big.NewInt(l.Principal), big.NewInt(l.Fees))
	return n.Mul(n, big.NewInt(api.Micro)).Add(n, big.NewInt(l.Interest))
}

// holds asks a step what follows from the promises: of what is owed, and of what else there is.
func holds(t *testing.T, l, got api.Loan, rise *big.Int) {
	t.Helper()
	if !loan.Good(got) {
		t.Fatalf("%v became %v: not good", l, got)
	}
	rose := new(big.Int).Sub(micros(got), micros(l))
	if got.Closed != l.Closed { // what stood below a cent is gone, too
		if got.Closed != api.Paid || owing(got).Sign() != 0 {
			t.Fatalf("%v became %v", l, got)
		}
		rose.Add(rose, big.NewInt(l.Interest%api.Micro))
	}
	if rose.Cmp(rise) != 0 {
		t.Fatalf("%v became %v: it owes %v more, not %v", l, got, rose, rise)
	}
	same := got
	same.Principal, same.Interest, same.Subsidy, same.Fees = l.Principal, l.Interest, l.Subsidy, l.Fees
	same.Status, same.Closed, same.Entered = l.Status, l.Closed, l.Entered
	if same != l || got.Subsidy < l.Subsidy {
		t.Fatalf("%v became %v", l, got)
	}
}

func TestWhatIsOwed(t *testing.T) {
	r := rand.New(rand.NewSource(1))
	for range 30000 {
		l := anyLoan(r)
		for range 12 {
			got, rise, e := step(r, l)
			if e != api.OK {
				refused(t, "a step", got, e, e)
				continue
			}
			if l.Closed != api.Open { // only interest may be asked for of it, and is none
				told(t, "a step of a closed loan", got, e, l, api.OK)
			}
			holds(t, l, got, rise)
			l = got
		}
	}
}

// Capitalizing changes nothing of what is owed, in whole cents, and Close tells just that.
func TestWhatIsOwedWhole(t *testing.T) {
	r := rand.New(rand.NewSource(2))
	for range 100000 {
		l := anyLoan(r)
		want, f := owing(l), api.OK
		if want.Cmp(big.NewInt(mostMoney)) > 0 {
			want, f = new(big.Int), api.ErrRange
		}
		n, e := loan.Owes(l)
		if n != want.Int64() || e != f {
			t.Fatalf("Owes(%v) is %d, %v, not %v, %v", l, n, e, want, f)
		}
		if got, e := loan.Capitalize(l); e == api.OK && owing(got).Cmp(owing(l)) != 0 {
			t.Fatalf("Capitalize(%v) is %v", l, got)
		}
		how := 1 + r.Intn(4)
		became := l
		became.Principal, became.Interest, became.Fees, became.Closed = 0, 0, 0, how
		if l.Closed != api.Open {
			f = api.ErrGone
		}
		if f != api.OK {
			became, n = api.Loan{}, 0
		}
		closes(t, l, how, became, n, f)
	}
}

// However days are cut, a loan comes to the same, while nothing else becomes of it.
func TestDaysAddUp(t *testing.T) {
	r := rand.New(rand.NewSource(3))
	for range 100000 {
		l := anyLoan(r)
		days := int(some(r, mostDay))
		first := int(some(r, int64(days)))
		want, f := loan.Accrue(l, days)
		got, e := loan.Accrue(l, first)
		if e == api.OK {
			got, e = loan.Accrue(got, days-first)
		}
		told(t, "Accrue of days and days more", got, e, want, f)
	}
}
