package pay_test

import (
	"math"
	"math/rand"
	"slices"
	"testing"

	"annuity/api"
	"annuity/pay"
)

const (
	mostMoney = api.MaxMoney
	mostMicro = api.MaxMicro
	mostDay   = api.MaxDay
	mostLoans = api.MaxLoans
	// cent is one of interest.
	cent = api.Micro
)

// owing is an open loan in repayment, of which interest is told in millionths of a cent.
func owing(id, ppm int, fees, interest, principal int64) api.Loan {
	return api.Loan{
		Id: id, Principal: principal, Interest: interest, Subsidy: 3700000, Fees: fees, Ppm: ppm, Subsidised: true,
		Status: api.Repay, Entered: 14669, Level: 10607, Far: 5846, Count: 12,
	}
}

// shut is a loan that was closed, with all that stays of it.
func shut(id, ppm, how int) api.Loan {
	l := owing(id, ppm, 0, 0, 0)
	l.Closed = how
	return l
}

// usual are good loans, not by rising Ids, one of which is closed.
func usual() []api.Loan {
	return []api.Loan{
		owing(7, 50000, 500, 2500000, 1000),
		owing(3, 60000, 0, 999999, 2000),
		shut(5, 90000, api.Forgiven),
		owing(4, 50000, 300, 4000000, 0),
		owing(9, 0, 100, 0, 70),
	}
}

// with is the usual loans, one of which is changed.
func with(place int, change func(l *api.Loan)) []api.Loan {
	l := usual()
	change(&l[place])
	return l
}

// badLoans are what makes an open loan no good.
func badLoans() map[string]func(l *api.Loan) {
	return map[string]func(l *api.Loan){
		"empty":                    func(l *api.Loan) { *l = api.Loan{} },
		"no Id":                    func(l *api.Loan) { l.Id = 0 },
		"an Id below 0":            func(l *api.Loan) { l.Id = math.MinInt },
		"an Id too great":          func(l *api.Loan) { l.Id = 1001 },
		"an Id far too great":      func(l *api.Loan) { l.Id = math.MaxInt },
		"principal below 0":        func(l *api.Loan) { l.Principal = -1 },
		"too much principal":       func(l *api.Loan) { l.Principal = mostMoney + 1 },
		"far too much principal":   func(l *api.Loan) { l.Principal = math.MaxInt64 },
		"interest below 0":         func(l *api.Loan) { l.Interest = -1 },
		"interest far below 0":     func(l *api.Loan) { l.Interest = math.MinInt64 },
		"too much interest":        func(l *api.Loan) { l.Interest = mostMicro + 1 },
		"subsidy below 0":          func(l *api.Loan) { l.Subsidy = -1 },
		"too much subsidy":         func(l *api.Loan) { l.Subsidy = mostMicro + 1 },
		"fees below 0":             func(l *api.Loan) { l.Fees = -1 },
		"too much fees":            func(l *api.Loan) { l.Fees = mostMoney + 1 },
		"a rate below 0":           func(l *api.Loan) { l.Ppm = -1 },
		"too great a rate":         func(l *api.Loan) { l.Ppm = api.MaxPpm + 1 },
		"no status":                func(l *api.Loan) { l.Status = 0 },
		"a sixth status":           func(l *api.Loan) { l.Status = 6 },
		"closed as a fifth":        func(l *api.Loan) { l.Closed = 5 },
		"closed as below 0":        func(l *api.Loan) { l.Closed = -1 },
		"closed, owing principal":  func(l *api.Loan) { *l = shut(8, 0, api.Paid); l.Principal = 1 },
		"closed, owing interest":   func(l *api.Loan) { *l = shut(8, 0, api.Discharged); l.Interest = 1 },
		"closed, owing fees":       func(l *api.Loan) { *l = shut(8, 0, api.Consolidated); l.Fees = 1 },
		"closed, of too great Ids": func(l *api.Loan) { *l = shut(1001, 0, api.Paid) },
		"entered below -1":         func(l *api.Loan) { l.Entered = -2 },
		"entered too late":         func(l *api.Loan) { l.Entered = mostDay + 1 },
		"level below 0":            func(l *api.Loan) { l.Level = -1 },
		"far too great":            func(l *api.Loan) { l.Far = mostMoney + 1 },
		"count below 0":            func(l *api.Loan) { l.Count = -1 },
	}
}

// bads are lists that no payment goes through, by what is amiss in them.
func bads() map[string][]api.Loan {
	all := map[string][]api.Loan{
		"one too many":         make([]api.Loan, mostLoans+1),
		"one too many, closed": make([]api.Loan, mostLoans+1),
		"far too many":         make([]api.Loan, 5000),
	}
	for name, l := range all {
		for i := range l {
			l[i] = owing(i%1000+1, 50000, 5, 5*cent, 5)
			if name == "one too many, closed" {
				l[i] = shut(i+1, 50000, api.Paid)
			}
		}
	}
	for name, change := range badLoans() {
		for place := range usual() {
			all[name+", place "+string(rune('0'+place))] = with(place, change)
		}
	}
	return all
}

// P20.1: Order

func holdsOrder(t *testing.T, name string, l []api.Loan, want ...int) {
	t.Helper()
	if got := pay.Order(l); !slices.Equal(got, want) {
		t.Errorf("%s: Order(%+v) = %d; want %d", name, l, got, want)
	}
}

func TestOrderByCases(t *testing.T) {
	at := func(id, ppm int) api.Loan { return api.Loan{Id: id, Ppm: ppm, Status: api.Repay} }
	closed := func(id, ppm, how int) api.Loan { return api.Loan{Id: id, Ppm: ppm, Closed: how} }
	holdsOrder(t, "none", nil)
	holdsOrder(t, "empty", []api.Loan{})
	holdsOrder(t, "usual", usual(), 1, 3, 0, 4)
	holdsOrder(t, "one", []api.Loan{at(1, 5)}, 0)
	holdsOrder(t, "one that is closed", []api.Loan{closed(1, 5, api.Paid)})
	holdsOrder(t, "rates fall", []api.Loan{at(1, 9), at(2, 8), at(3, 7)}, 0, 1, 2)
	holdsOrder(t, "rates rise", []api.Loan{at(1, 7), at(2, 8), at(3, 9)}, 2, 1, 0)
	holdsOrder(t, "rates by a millionth", []api.Loan{at(1, 999999), at(2, 1000000), at(3, 999998)}, 1, 0, 2)
	holdsOrder(t, "one rate, Ids rise", []api.Loan{at(1, 7), at(2, 7), at(3, 7)}, 0, 1, 2)
	holdsOrder(t, "one rate, Ids fall", []api.Loan{at(3, 7), at(2, 7), at(1, 7)}, 2, 1, 0)
	holdsOrder(t, "rates go ahead of Ids", []api.Loan{at(1, 7), at(1000, 8)}, 1, 0)
	holdsOrder(t, "all alike", []api.Loan{at(4, 7), at(4, 7), at(4, 7), at(4, 7)}, 0, 1, 2, 3)
	holdsOrder(t, "alike, by place", []api.Loan{at(4, 7), at(4, 8), at(4, 7), at(3, 7), at(4, 8)}, 1, 4, 3, 0, 2)
	holdsOrder(t, "without interest last", []api.Loan{at(1, 0), at(2, 1)}, 1, 0)
	holdsOrder(t, "all closed", []api.Loan{closed(1, 9, 1), closed(2, 8, 2), closed(3, 7, 3), closed(4, 6, 4)})
	holdsOrder(t, "some closed", []api.Loan{closed(1, 9, 1), at(2, 1), closed(3, 8, 4), at(4, 6)}, 3, 1)
	for status := -1; status <= 7; status++ {
		holdsOrder(t, "in any status", []api.Loan{{Id: 2, Ppm: 1, Status: status}, {Id: 1, Ppm: 1, Status: status}}, 1, 0)
	}
	for _, how := range []int{math.MinInt, -1, 1, 2, 3, 4, 5, 1 << 32, math.MaxInt} {
		holdsOrder(t, "closed somehow", []api.Loan{closed(1, 9, how), at(2, 1), closed(3, 9, how)}, 1)
	}
}

// TestOrderOfAny: loans need not be good, nor few.
func TestOrderOfAny(t *testing.T) {
	ends := []api.Loan{
		{Ppm: math.MinInt}, {Ppm: math.MaxInt}, {Ppm: 0}, {Ppm: -1}, {Ppm: 1}, {Id: math.MinInt}, {Id: math.MaxInt}, {Id: -1},
	}
	holdsOrder(t, "ends", ends, 1, 4, 5, 7, 2, 6, 3, 0)
	holdsOrder(t, "bad", []api.Loan{{}, {Id: -5, Principal: -9, Interest: -9, Fees: -9, Level: -1}, {Id: 9, Status: 77}}, 1, 0, 2)
	least, most := api.Loan{Id: math.MinInt, Ppm: 5}, api.Loan{Id: math.MaxInt, Ppm: 5}
	holdsOrder(t, "the least Id first", []api.Loan{least, most}, 0, 1)
	holdsOrder(t, "the least Id last", []api.Loan{most, least}, 1, 0)
	least, most = api.Loan{Id: 5, Ppm: math.MinInt}, api.Loan{Id: 5, Ppm: math.MaxInt}
	holdsOrder(t, "the least rate first", []api.Loan{least, most}, 1, 0)
	holdsOrder(t, "the least rate last", []api.Loan{most, least}, 0, 1)
	many := make([]api.Loan, 100000)
	want := make([]int, 0, len(many))
	for i := range many {
		many[i] = api.Loan{Id: len(many) - i/2, Ppm: i / 1000}
	}
	for ppm := 99; ppm >= 0; ppm-- {
		for pair := 499; pair >= 0; pair-- {
			place := ppm*1000 + pair*2
			want = append(want, place, place+1)
		}
	}
	if got := pay.Order(many); !slices.Equal(got, want) {
		t.Error("100000 loans are not in order")
	}
}

// ahead tells whether the loan at the place i has to stand ahead of the one at j, by the chapter's words.
func ahead(l []api.Loan, i, j int) bool {
	if l[i].Ppm != l[j].Ppm {
		return l[i].Ppm > l[j].Ppm
	}
	if l[i].Id != l[j].Id {
		return l[i].Id < l[j].Id
	}
	return i < j
}

// modelOrder puts each open one's place by how many stand ahead of it.
func modelOrder(l []api.Loan, ahead func(l []api.Loan, i, j int) bool) []int {
	at := map[int]int{}
	for i := range l {
		if l[i].Closed != 0 {
			continue
		}
		n := 0
		for j := range l {
			if l[j].Closed == 0 && ahead(l, j, i) {
				n++
			}
		}
		at[n] = i
	}
	order := make([]int, len(at))
	for n, i := range at {
		order[n] = i
	}
	return order
}

func TestOrderAtRandom(t *testing.T) {
	r := rand.New(rand.NewSource(20))
	for range 20000 {
		l := make([]api.Loan, r.Intn(14))
		for i := range l {
			l[i] = api.Loan{Id: r.Intn(4), Ppm: r.Intn(4)}
			if r.Intn(4) == 0 {
				l[i].Closed = r.Intn(5)
			}
		}
		holdsOrder(t, "at random", l, modelOrder(l, ahead)...)
		if t.Failed() {
			return
		}
	}
}

// P20.1: All

func holds(t *testing.T, name string, l []api.Loan, amount int64, want []api.Loan, parts api.Parts) {
	t.Helper()
	if got, p, e := pay.All(l, amount); !slices.Equal(got, want) || p != parts || e != api.OK {
		t.Errorf("%s: All(%+v, %d) =\n%+v, %+v, %v; want\n%+v, %+v", name, l, amount, got, p, e, want, parts)
	}
}

func refused(t *testing.T, name string, l []api.Loan, amount int64, f api.Errno) {
	t.Helper()
	if got, p, e := pay.All(l, amount); got != nil || p != (api.Parts{}) || e != f {
		t.Errorf("%s: All(.., %d) = %+v, %+v, %v; want %v alone", name, amount, got, p, e, f)
	}
}

// left is a loan's balances behind a payment; closed as Paid, if they are nothing.
func left(l api.Loan, fees, interest, principal int64) api.Loan {
	l.Fees, l.Interest, l.Principal = fees, interest, principal
	if fees == 0 && interest < cent && principal == 0 {
		l.Interest, l.Closed = 0, api.Paid
	}
	return l
}

// TestUsual goes through the rooms of the usual loans, edge by edge.
func TestUsual(t *testing.T) {
	cases := []struct {
		name   string
		amount int64
		fees   [3]int64 // of 7, 4, 9
		micro  [2]int64 // of 7, 4
		owes   [3]int64 // principal of 7, 3, 9
		parts  api.Parts
	}{
		{"nothing", 0, [3]int64{500, 300, 100}, [2]int64{2500000, 4000000}, [3]int64{1000, 2000, 70}, api.Parts{}},
		{"a cent", 1, [3]int64{500, 299, 100}, [2]int64{2500000, 4000000}, [3]int64{1000, 2000, 70}, api.Parts{Fees: 1}},
		{"a cent less than 4's fees", 299, [3]int64{500, 1, 100}, [2]int64{2500000, 4000000}, [3]int64{1000, 2000, 70}, api.Parts{Fees: 299}},
		{"4's fees", 300, [3]int64{500, 0, 100}, [2]int64{2500000, 4000000}, [3]int64{1000, 2000, 70}, api.Parts{Fees: 300}},
		{"into 7's fees", 301, [3]int64{499, 0, 100}, [2]int64{2500000, 4000000}, [3]int64{1000, 2000, 70}, api.Parts{Fees: 301}},
		{"7's fees too", 800, [3]int64{0, 0, 100}, [2]int64{2500000, 4000000}, [3]int64{1000, 2000, 70}, api.Parts{Fees: 800}},
		{"a cent less than all fees", 899, [3]int64{0, 0, 1}, [2]int64{2500000, 4000000}, [3]int64{1000, 2000, 70}, api.Parts{Fees: 899}},
		{"all fees", 900, [3]int64{}, [2]int64{2500000, 4000000}, [3]int64{1000, 2000, 70}, api.Parts{Fees: 900}},
		{"into 4's interest", 901, [3]int64{}, [2]int64{2500000, 3000000}, [3]int64{1000, 2000, 70}, api.Parts{Fees: 900, Interest: 1}},
		{"a cent less than 4's interest", 903, [3]int64{}, [2]int64{2500000, 1000000}, [3]int64{1000, 2000, 70}, api.Parts{Fees: 900, Interest: 3}},
		{"4's interest", 904, [3]int64{}, [2]int64{2500000, 0}, [3]int64{1000, 2000, 70}, api.Parts{Fees: 900, Interest: 4}},
		{"into 7's interest", 905, [3]int64{}, [2]int64{1500000, 0}, [3]int64{1000, 2000, 70}, api.Parts{Fees: 900, Interest: 5}},
		{"all interest", 906, [3]int64{}, [2]int64{500000, 0}, [3]int64{1000, 2000, 70}, api.Parts{Fees: 900, Interest: 6}},
		{"into 3's principal", 907, [3]int64{}, [2]int64{500000, 0}, [3]int64{1000, 1999, 70}, api.Parts{Fees: 900, Interest: 6, Principal: 1}},
		{"3's principal", 2906, [3]int64{}, [2]int64{500000, 0}, [3]int64{1000, 0, 70}, api.Parts{Fees: 900, Interest: 6, Principal: 2000}},
		{"into 7's principal", 2907, [3]int64{}, [2]int64{500000, 0}, [3]int64{999, 0, 70}, api.Parts{Fees: 900, Interest: 6, Principal: 2001}},
		{"7's principal too", 3906, [3]int64{}, [2]int64{500000, 0}, [3]int64{0, 0, 70}, api.Parts{Fees: 900, Interest: 6, Principal: 3000}},
		{"a cent less than all", 3975, [3]int64{}, [2]int64{500000, 0}, [3]int64{0, 0, 1}, api.Parts{Fees: 900, Interest: 6, Principal: 3069}},
		{"all", 3976, [3]int64{}, [2]int64{500000, 0}, [3]int64{}, api.Parts{Fees: 900, Interest: 6, Principal: 3070}},
		{"a cent more than all", 3977, [3]int64{}, [2]int64{500000, 0}, [3]int64{}, api.Parts{Fees: 900, Interest: 6, Principal: 3070, Refund: 1}},
		{"the most", mostMoney, [3]int64{}, [2]int64{500000, 0}, [3]int64{}, api.Parts{Fees: 900, Interest: 6, Principal: 3070, Refund: mostMoney - 3976}},
	}
	for _, c := range cases {
		want := usual()
		want[0] = left(want[0], c.fees[0], c.micro[0], c.owes[0])
		want[1] = left(want[1], 0, 999999, c.owes[1])
		want[3] = left(want[3], c.fees[1], c.micro[1], 0)
		want[4] = left(want[4], c.fees[2], 0, c.owes[2])
		holds(t, c.name, usual(), c.amount, want, c.parts)
	}
}

// TestNothingOwed: all is Refund.
func TestNothingOwed(t *testing.T) {
	closed := []api.Loan{shut(1, 5, api.Paid), shut(2, 6, api.Forgiven), shut(3, 7, api.Discharged), shut(4, 8, api.Consolidated)}
	full := make([]api.Loan, mostLoans)
	for i := range full {
		full[i] = shut(1000-i, i, 1+i%4)
	}
	for _, amount := range []int64{0, 1, 500, mostMoney - 1, mostMoney} {
		holds(t, "no loans", nil, amount, nil, api.Parts{Refund: amount})
		holds(t, "empty", []api.Loan{}, amount, nil, api.Parts{Refund: amount})
		holds(t, "closed ones", closed, amount, closed, api.Parts{Refund: amount})
		holds(t, "as many closed ones as may be", full, amount, full, api.Parts{Refund: amount})
		bare := []api.Loan{owing(1, 5, 0, 0, 0), owing(2, 6, 0, cent-1, 0), shut(3, 7, api.Forgiven)}
		want := []api.Loan{shut(1, 5, api.Paid), shut(2, 6, api.Paid), shut(3, 7, api.Forgiven)}
		holds(t, "open ones that owe no cent", bare, amount, want, api.Parts{Refund: amount})
	}
}

// TestAnyStatus: who is open is paid, whatever its status.
func TestAnyStatus(t *testing.T) {
	for status := api.School; status <= api.Repay; status++ {
		for _, entered := range []int{-1, 0, 5000, mostDay} {
			l := owing(6, 5, 10, 20*cent+7, 30)
			l.Status, l.Entered = status, entered
			one := []api.Loan{l}
			holds(t, "fees", one, 9, []api.Loan{left(l, 1, 20*cent+7, 30)}, api.Parts{Fees: 9})
			holds(t, "interest", one, 29, []api.Loan{left(l, 0, cent+7, 30)}, api.Parts{Fees: 10, Interest: 19})
			holds(t, "principal", one, 59, []api.Loan{left(l, 0, 7, 1)}, api.Parts{Fees: 10, Interest: 20, Principal: 29})
			holds(t, "all", one, 65, []api.Loan{left(l, 0, 0, 0)}, api.Parts{Fees: 10, Interest: 20, Principal: 30, Refund: 5})
		}
	}
	school, repay := owing(1, 9, 5, 5*cent, 5), owing(2, 8, 5, 5*cent, 5)
	school.Status, school.Entered = api.School, -1
	want := []api.Loan{left(school, 0, 0, 5), left(repay, 0, 2*cent, 5)}
	holds(t, "school ahead of repayment", []api.Loan{school, repay}, 18, want, api.Parts{Fees: 10, Interest: 8})
}

// TestAnyLoan: nothing else of a loan has a say, and nothing else is changed.
func TestAnyLoan(t *testing.T) {
	for _, change := range []func(l *api.Loan){
		func(l *api.Loan) { l.Subsidised = false },
		func(l *api.Loan) { l.Subsidy = mostMicro },
		func(l *api.Loan) { l.Level, l.Far = 0, 0 },
		func(l *api.Loan) { l.Level, l.Far = mostMoney, mostMoney },
		func(l *api.Loan) { l.Count = math.MaxInt },
		func(l *api.Loan) { l.Id = 1000 },
		func(l *api.Loan) { l.Ppm = api.MaxPpm },
		func(l *api.Loan) { l.Status, l.Entered = api.Forbear, -1 },
	} {
		l := owing(1, 0, 10, 20*cent, 30)
		change(&l)
		holds(t, "any", []api.Loan{l}, 35, []api.Loan{left(l, 0, 0, 25)}, api.Parts{Fees: 10, Interest: 20, Principal: 5})
		holds(t, "any, all of it", []api.Loan{l}, 60, []api.Loan{left(l, 0, 0, 0)}, api.Parts{Fees: 10, Interest: 20, Principal: 30})
	}
}

// TestAlike: loans of one Id, and of one rate, go by place; of fees the rate has no say.
func TestAlike(t *testing.T) {
	twins := []api.Loan{owing(4, 7, 10, 10*cent, 10), owing(4, 8, 10, 10*cent, 10), owing(4, 7, 10, 10*cent, 10)}
	of := func(parts ...int64) []api.Loan {
		want := slices.Clone(twins)
		for i := range want {
			want[i] = left(want[i], parts[i], parts[3+i]*cent, parts[6+i])
		}
		return want
	}
	holds(t, "the first one's fees", twins, 4, of(6, 10, 10, 10, 10, 10, 10, 10, 10), api.Parts{Fees: 4})
	holds(t, "the second one's fees", twins, 14, of(0, 6, 10, 10, 10, 10, 10, 10, 10), api.Parts{Fees: 14})
	holds(t, "the third one's fees", twins, 24, of(0, 0, 6, 10, 10, 10, 10, 10, 10), api.Parts{Fees: 24})
	holds(t, "the dearest one's interest", twins, 34, of(0, 0, 0, 10, 6, 10, 10, 10, 10), api.Parts{Fees: 30, Interest: 4})
	holds(t, "the first one's interest", twins, 44, of(0, 0, 0, 6, 0, 10, 10, 10, 10), api.Parts{Fees: 30, Interest: 14})
	holds(t, "the third one's interest", twins, 54, of(0, 0, 0, 0, 0, 6, 10, 10, 10), api.Parts{Fees: 30, Interest: 24})
	holds(t, "the dearest one's principal", twins, 64, of(0, 0, 0, 0, 0, 0, 10, 6, 10), api.Parts{Fees: 30, Interest: 30, Principal: 4})
	holds(t, "the first one's principal", twins, 74, of(0, 0, 0, 0, 0, 0, 6, 0, 10), api.Parts{Fees: 30, Interest: 30, Principal: 14})
	holds(t, "the third one's principal", twins, 84, of(0, 0, 0, 0, 0, 0, 0, 0, 6), api.Parts{Fees: 30, Interest: 30, Principal: 24})
}

// TestBelowACent: millionths that are no whole cent are not paid, and go when all else is paid.
func TestBelowACent(t *testing.T) {
	one := func(l api.Loan) []api.Loan { return []api.Loan{l} }
	l := owing(1, 5, 0, cent-1, 10)
	holds(t, "a cent of principal", one(l), 1, one(left(l, 0, cent-1, 9)), api.Parts{Principal: 1})
	holds(t, "all", one(l), 11, one(left(l, 0, 0, 0)), api.Parts{Principal: 10, Refund: 1})
	l = owing(1, 5, 0, cent, 10)
	holds(t, "a cent of interest", one(l), 1, one(left(l, 0, 0, 10)), api.Parts{Interest: 1})
	l = owing(1, 5, 0, 2*cent-1, 10)
	holds(t, "not two", one(l), 2, one(left(l, 0, cent-1, 9)), api.Parts{Interest: 1, Principal: 1})
	l = owing(1, 5, 3, 2*cent-1, 0)
	holds(t, "fees and interest", one(l), 4, one(left(l, 0, 0, 0)), api.Parts{Fees: 3, Interest: 1})
	holds(t, "fees alone", one(l), 3, one(left(l, 0, 2*cent-1, 0)), api.Parts{Fees: 3})
	l = owing(1, 5, 3, cent-1, 0)
	holds(t, "fees, and all is paid", one(l), 3, one(left(l, 0, 0, 0)), api.Parts{Fees: 3})
	holds(t, "fees, and a cent is not", one(l), 2, one(left(l, 1, cent-1, 0)), api.Parts{Fees: 2})
}

// TestTheMost: as many loans as may be, each owing as much as may be, which together is no money.
func TestTheMost(t *testing.T) {
	var l []api.Loan
	for i := range mostLoans {
		l = append(l, owing(i+1, i, mostMoney, mostMicro, mostMoney))
	}
	want := slices.Clone(l)
	want[0].Fees = 0
	holds(t, "the first one's fees", l, mostMoney, want, api.Parts{Fees: mostMoney})
	for i := range l {
		l[i].Fees = 0
	}
	l[3].Fees = 5
	want = slices.Clone(l)
	want[3].Fees = 0
	for i := 6; i < mostLoans; i++ {
		want[i].Interest = 0
	}
	want[6].Interest = 5 * cent
	holds(t, "interest", l, mostMoney, want, api.Parts{Fees: 5, Interest: mostMoney - 5})
	for i := range l {
		l[i].Fees, l[i].Interest = 0, 999999
	}
	want = slices.Clone(l)
	want[mostLoans-1] = left(l[mostLoans-1], 0, 0, 0)
	holds(t, "the last one's principal", l, mostMoney, want, api.Parts{Principal: mostMoney})
	want[mostLoans-1] = left(l[mostLoans-1], 0, 999999, 1)
	holds(t, "but a cent", l, mostMoney-1, want, api.Parts{Principal: mostMoney - 1})
}

func TestRefused(t *testing.T) {
	lists := map[string][]api.Loan{
		"usual": usual(), "none": nil, "empty": {}, "closed": {shut(1, 5, api.Paid)}, "one": {owing(1, 5, 5, 5*cent, 5)},
	}
	wrong := []int64{math.MinInt64, -mostMoney, -5, -1, mostMoney + 1, math.MaxInt64}
	for name, l := range lists {
		for _, amount := range wrong {
			refused(t, name+", no amount", l, amount, api.ErrArg)
		}
	}
	for name, l := range bads() {
		for _, amount := range append(wrong, 0, 1, 500, mostMoney) {
			refused(t, name, l, amount, api.ErrArg)
		}
	}
}

// TestEnds: good loans at their fields' bounds are paid.
func TestEnds(t *testing.T) {
	for name, change := range map[string]func(l *api.Loan){
		"the first Id":    func(l *api.Loan) { l.Id = 1 },
		"the last Id":     func(l *api.Loan) { l.Id = 1000 },
		"most principal":  func(l *api.Loan) { l.Principal = mostMoney },
		"most interest":   func(l *api.Loan) { l.Interest = mostMicro },
		"most fees":       func(l *api.Loan) { l.Fees = mostMoney },
		"most subsidy":    func(l *api.Loan) { l.Subsidy = mostMicro },
		"no rate":         func(l *api.Loan) { l.Ppm = 0 },
		"the most rate":   func(l *api.Loan) { l.Ppm = api.MaxPpm },
		"school":          func(l *api.Loan) { l.Status = api.School },
		"never in repay":  func(l *api.Loan) { l.Entered = -1 },
		"the last day":    func(l *api.Loan) { l.Entered = mostDay },
		"no level":        func(l *api.Loan) { l.Level = 0 },
		"the most far":    func(l *api.Loan) { l.Far = mostMoney },
		"the most months": func(l *api.Loan) { l.Count = math.MaxInt },
	} {
		for place := range usual() {
			l := with(place, change)
			if l[place].Closed != 0 && (l[place].Principal|l[place].Interest|l[place].Fees) != 0 {
				continue
			}
			want, parts := modelAll(l, 700)
			holds(t, name, l, 700, want, parts)
		}
	}
	full := make([]api.Loan, mostLoans)
	for i := range full {
		full[i] = owing(i%3+1, i%5, int64(i), int64(i)*cent+5, int64(i))
	}
	for _, amount := range []int64{0, 1, 119, 120, 121, 239, 240, 241, 359, 360, 361} {
		want, parts := modelAll(full, amount)
		holds(t, "as many as may be", full, amount, want, parts)
	}
}

// Models

// byId is for fees: the rate has no say.
func byId(l []api.Loan, i, j int) bool {
	if l[i].Id != l[j].Id {
		return l[i].Id < l[j].Id
	}
	return i < j
}

// modelAll goes kind by kind and loan by loan, and closes in the end.
func modelAll(l []api.Loan, amount int64) ([]api.Loan, api.Parts) {
	out := slices.Clone(l)
	take := func(have int64) int64 {
		part := min(have, amount)
		amount -= part
		return part
	}
	var p api.Parts
	for _, i := range modelOrder(l, byId) {
		part := take(out[i].Fees)
		out[i].Fees -= part
		p.Fees += part
	}
	for _, i := range modelOrder(l, ahead) {
		part := take(out[i].Interest / cent)
		out[i].Interest -= part * cent
		p.Interest += part
	}
	for _, i := range modelOrder(l, ahead) {
		part := take(out[i].Principal)
		out[i].Principal -= part
		p.Principal += part
	}
	p.Refund = amount
	for i, a := range out {
		if a.Closed == 0 {
			out[i] = left(a, a.Fees, a.Interest, a.Principal)
		}
	}
	return out, p
}

// anyLoan has balances up to a size, and often none of a kind.
func anyLoan(r *rand.Rand, size int64) api.Loan {
	l := owing(1+r.Intn(6), r.Intn(4), 0, r.Int63n(cent), 0)
	if r.Intn(5) == 0 {
		return shut(l.Id, l.Ppm, 1+r.Intn(4))
	}
	if r.Intn(2) == 0 {
		l.Fees = r.Int63n(size)
	}
	if r.Intn(2) == 0 {
		l.Interest += r.Int63n(min(size, mostMicro/cent)) * cent
	}
	if r.Intn(3) > 0 {
		l.Principal = r.Int63n(size)
	}
	l.Status = 1 + r.Intn(5)
	return l
}

func anyLoans(r *rand.Rand, size int64) []api.Loan {
	var l []api.Loan
	for range r.Intn(mostLoans + 1) {
		l = append(l, anyLoan(r, size))
	}
	return l
}

// TestEachCent: payments of any size through small loans.
func TestEachCent(t *testing.T) {
	r := rand.New(rand.NewSource(201))
	for range 200 {
		l := anyLoans(r, 9)
		for amount := range int64(200) {
			want, parts := modelAll(l, amount)
			holds(t, "each cent", l, amount, want, parts)
			if t.Failed() {
				return
			}
		}
	}
}

// TestWalks: payments one behind the other, of cents at once or in two, come to the same.
func TestWalks(t *testing.T) {
	r := rand.New(rand.NewSource(202))
	for range 2000 {
		size := int64(1) << (1 + r.Intn(43))
		l := anyLoans(r, size)
		for range 12 {
			amount := r.Int63n(min(size*4, mostMoney+1))
			want, parts := modelAll(l, amount)
			holds(t, "walk", l, amount, want, parts)
			first := r.Int63n(amount + 1)
			half, p, _ := pay.All(l, first)
			rest := api.Parts{Fees: parts.Fees - p.Fees, Interest: parts.Interest - p.Interest, Principal: parts.Principal - p.Principal, Refund: parts.Refund - p.Refund}
			holds(t, "the rest of two", half, amount-first, want, rest)
			if t.Failed() {
				return
			}
			l = want
		}
	}
}

// P20.2

// owed is what all owe together, kind by kind.
func owed(l []api.Loan) api.Parts {
	var p api.Parts
	for _, a := range l {
		p.Fees += a.Fees
		p.Interest += a.Interest / cent
		p.Principal += a.Principal
	}
	return p
}

// TestNothingIsLost: whatever the sizes are, and in its order.
func TestNothingIsLost(t *testing.T) {
	r := rand.New(rand.NewSource(203))
	var early, through, over int
	for range 20000 {
		size := int64(1) << (1 + r.Intn(43))
		l := anyLoans(r, size)
		amount := r.Int63n(min(size*20, mostMoney+1))
		out, p, e := pay.All(l, amount)
		if e != api.OK || len(out) != len(l) || p.Fees+p.Interest+p.Principal+p.Refund != amount {
			t.Fatalf("All(%+v, %d) = %+v, %+v, %v", l, amount, out, p, e)
		}
		was, is := owed(l), owed(out)
		if was.Fees-is.Fees != p.Fees || was.Interest-is.Interest != p.Interest || was.Principal-is.Principal != p.Principal {
			t.Fatalf("All(%+v, %d) = %+v, %+v", l, amount, out, p)
		}
		if p.Interest > 0 && is.Fees > 0 || p.Principal > 0 && is.Fees+is.Interest > 0 || p.Refund > 0 && is.Fees+is.Interest+is.Principal > 0 {
			t.Fatalf("All(%+v, %d) = %+v, %+v", l, amount, out, p)
		}
		switch {
		case p.Refund > 0:
			over++
		case p.Principal > 0:
			through++
		default:
			early++
		}
	}
	if min(early, through, over) < 1000 {
		t.Errorf("%d ended ahead of principal, %d in it, %d behind all", early, through, over)
	}
}

// Memory

func spoil(l []api.Loan) {
	l = l[:cap(l)]
	for i := range l {
		l[i] = api.Loan{Id: -7, Principal: -7, Interest: -7, Fees: -7, Closed: -7}
	}
}

// roomy is the usual loans, with one more in their spare room.
func roomy() []api.Loan { return append(usual(), owing(2, 70000, 7, 7*cent, 7))[:5] }

func TestAllTwice(t *testing.T) {
	for _, amount := range []int64{0, 1, 902, 3000, 5000} {
		l := roomy()
		was := slices.Clone(l[:cap(l)])
		want, parts := modelAll(usual(), amount)
		for range 3 {
			out, _, _ := pay.All(l, amount)
			spoil(out)
			holds(t, "behind an answer that was overwritten", l, amount, want, parts)
		}
		if !slices.Equal(l[:cap(l)], was) {
			t.Errorf("what was handed in is now %+v", l[:cap(l)])
		}
		out, _, _ := pay.All(l, amount)
		spoil(l)
		if !slices.Equal(out, want) {
			t.Errorf("behind arguments that were overwritten: %+v", out)
		}
	}
	// What is closed alone, and nothing at all, are new memory too.
	for _, l := range [][]api.Loan{{shut(1, 5, api.Paid)}, make([]api.Loan, 0, 4)} {
		was := slices.Clone(l[:cap(l)])
		out, _, _ := pay.All(l, 9)
		spoil(out)
		if !slices.Equal(l[:cap(l)], was) {
			t.Errorf("what was handed in is now %+v", l[:cap(l)])
		}
	}
}

func TestRefusedChangesNothing(t *testing.T) {
	for name, l := range bads() {
		was := slices.Clone(l)
		refused(t, name, l, 900, api.ErrArg)
		if !slices.Equal(l, was) {
			t.Errorf("%s: what was handed in is now %+v", name, l)
		}
	}
	l := usual()
	refused(t, "usual", l, -1, api.ErrArg)
	if !slices.Equal(l, usual()) {
		t.Errorf("what was handed in is now %+v", l)
	}
}

func TestOrderTwice(t *testing.T) {
	l := roomy()
	was := slices.Clone(l[:cap(l)])
	first := pay.Order(l)
	for range 3 {
		again := pay.Order(l)
		for i := range again[:cap(again)] {
			again[:cap(again)][i] = -7
		}
		holdsOrder(t, "behind an answer that was overwritten", l, 1, 3, 0, 4)
	}
	if !slices.Equal(l[:cap(l)], was) {
		t.Errorf("what was handed in is now %+v", l[:cap(l)])
	}
	spoil(l)
	if !slices.Equal(first, []int{1, 3, 0, 4}) {
		t.Errorf("an answer is now %d", first)
	}
}
