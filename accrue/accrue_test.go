package accrue_test

import (
	"math"
	"math/big"
	"math/rand"
	"testing"

	"annuity/accrue"
	"annuity/api"
)

const (
	mostMoney = api.MaxMoney
	mostPpm   = api.MaxPpm
	mostMicro = api.MaxMicro
	mostDay   = api.MaxDay
	// dearest is a day's interest of the greatest principal at the greatest rate.
	dearest = 27397260273972602
)

// around is numbers at both ends of what is from 0 to most, some between them, and wrong ones beyond.
func around(most int64) []int64 {
	return []int64{
		math.MinInt64, math.MinInt64 + 1, -1 << 32, -most - 1, -most, -most + 1, -2, -1,
		0, 1, 2, 3, 364, 365, 366, most / 3, most / 2, most - 1, most,
		most + 1, 2 * most, most + 1<<32, 1<<32 + 1, math.MaxInt64 - 1, math.MaxInt64,
	}
}

// These have more edges: where products wrap round, and where quotients are just whole.
func principals() []int64 {
	return append(around(mostMoney), 1000000, 1000003, 9223372036855, 365000000)
}

func rates() []int64 { return append(around(mostPpm), 45300, 50000, api.MaxRate, 922337, 922338) }

func stretches() []int64 { return append(around(mostDay), 30, 36, 37, 337, 400, 673, 674, 1000) }

func haves() []int64 {
	return append(around(mostMicro), api.Micro-1, api.Micro, api.Micro+1, mostMicro-36*dearest, mostMicro-36*dearest+1)
}

func fits(n, most int64) bool { return n >= 0 && n <= most }

// dayOf is a day's interest in numbers of any length.
func dayOf(principal, ppm int64) *big.Int {
	p := new(big.Int).Mul(big.NewInt(principal), big.NewInt(ppm))
	return p.Quo(p, big.NewInt(365))
}

// added is what Add shall tell.
func added(have, principal, ppm, days int64) (int64, api.Errno) {
	if !fits(have, mostMicro) || !fits(principal, mostMoney) || !fits(ppm, mostPpm) || !fits(days, mostDay) {
		return 0, api.ErrArg
	}
	n := dayOf(principal, ppm)
	n.Mul(n, big.NewInt(days)).Add(n, big.NewInt(have))
	if n.Cmp(big.NewInt(mostMicro)) > 0 {
		return 0, api.ErrRange
	}
	return n.Int64(), api.OK
}

func adds(t *testing.T, have, principal, ppm, days, want int64, e api.Errno) {
	t.Helper()
	if n, f := accrue.Add(have, principal, int(ppm), int(days)); n != want || f != e {
		t.Fatalf("Add(%d, %d, %d, %d) is %d, %v, not %d, %v", have, principal, ppm, days, n, f, want, e)
	}
}

// P13.1

func TestDailyByCases(t *testing.T) {
	for _, x := range []struct {
		principal int64
		ppm       int
		want      int64
		e         api.Errno
	}{
		{0, 0, 0, api.OK},
		{0, mostPpm, 0, api.OK},
		{mostMoney, 0, 0, api.OK},
		{1, 364, 0, api.OK}, // Down
		{1, 365, 1, api.OK},
		{1, 729, 1, api.OK},
		{1, 730, 2, api.OK},
		{365, 1, 1, api.OK},
		{1000000, 50000, 136986301, api.OK},
		{1200000, 45300, 148931506, api.OK},
		{1, mostPpm, 2739, api.OK},
		{mostMoney, 1, 27397260273, api.OK},
		{mostMoney, 3650, 100000000000000, api.OK},          // above MaxMoney
		{mostMoney, 922337, 25269506849315068, api.OK},      // a year's is no more than an int64 holds
		{mostMoney, 922338, 25269534246575342, api.OK},      // it is more
		{9223372036854, mostPpm, 25269512429736986, api.OK}, // no more
		{9223372036855, mostPpm, 25269512429739726, api.OK}, // more
		{mostMoney, mostPpm, dearest, api.OK},
		{-1, 1, 0, api.ErrArg},
		{1, -1, 0, api.ErrArg},
		{-365, -1, 0, api.ErrArg}, // the quotient would be 1
		{0, -1, 0, api.ErrArg},
		{-1, 0, 0, api.ErrArg},
		{mostMoney + 1, 0, 0, api.ErrArg},
		{0, mostPpm + 1, 0, api.ErrArg},
		{mostMoney + 1, mostPpm + 1, 0, api.ErrArg},
		{math.MinInt64, 1, 0, api.ErrArg},
		{math.MaxInt64, math.MaxInt, 0, api.ErrArg},
		{1, math.MinInt, 0, api.ErrArg},
		{1, 1<<32 + 365, 0, api.ErrArg},
	} {
		if n, e := accrue.Daily(x.principal, x.ppm); n != x.want || e != x.e {
			t.Errorf("Daily(%d, %d) is %d, %v, not %d, %v", x.principal, x.ppm, n, e, x.want, x.e)
		}
	}
}

func dailies(t *testing.T, principal, ppm int64) {
	t.Helper()
	want, e := int64(0), api.ErrArg
	if fits(principal, mostMoney) && fits(ppm, mostPpm) {
		want, e = dayOf(principal, ppm).Int64(), api.OK
	}
	if n, f := accrue.Daily(principal, int(ppm)); n != want || f != e {
		t.Fatalf("Daily(%d, %d) is %d, %v, not %d, %v", principal, ppm, n, f, want, e)
	}
}

func TestDailyOfEdges(t *testing.T) {
	for _, principal := range principals() {
		for _, ppm := range rates() {
			dailies(t, principal, ppm)
		}
	}
}

func TestDailyOfAny(t *testing.T) {
	for principal := range int64(400) {
		for ppm := range int64(400) {
			dailies(t, principal, ppm)
		}
	}
	r := rand.New(rand.NewSource(1))
	for range 100000 {
		dailies(t, r.Int63n(mostMoney+1), r.Int63n(mostPpm+1))
		dailies(t, r.Int63n(mostMoney+1), r.Int63n(400))
		dailies(t, r.Int63n(10000000), r.Int63n(mostPpm+1))
	}
}

func TestAddByCases(t *testing.T) {
	const left = mostMicro - 36*dearest // what may be there ahead of 36 of the dearest days
	for _, x := range []struct {
		have, principal, ppm, days, want int64
		e                                api.Errno
	}{
		{0, 0, 0, 0, 0, api.OK},
		{7, 0, 0, 0, 7, api.OK},
		{7, 1000000, 50000, 0, 7, api.OK},
		{7, 0, 50000, mostDay, 7, api.OK},
		{7, 1000000, 0, mostDay, 7, api.OK},
		{0, 1000000, 50000, 1, 136986301, api.OK},
		{7, 1000000, 50000, 1, 136986308, api.OK},
		{0, 1000000, 50000, 365, 49999999865, api.OK}, // each day is Down: not all of them at once
		{0, 1, 364, mostDay, 0, api.OK},
		{5, 1, 365, mostDay, mostDay + 5, api.OK},
		{0, mostMoney, mostPpm, 36, 36 * dearest, api.OK},
		{left, mostMoney, mostPpm, 36, mostMicro, api.OK},
		{left + 1, mostMoney, mostPpm, 36, 0, api.ErrRange},
		{0, mostMoney, mostPpm, 37, 0, api.ErrRange},
		{0, mostMoney, mostPpm, 337, 0, api.ErrRange}, // more than an int64 holds: below 0 there
		{mostMicro, mostMoney, mostPpm, 337, 0, api.ErrRange},
		{0, mostMoney, mostPpm, 673, 0, api.ErrRange},
		{mostMicro, mostMoney, mostPpm, 673, 0, api.ErrRange}, // just with what is there more than 64 bits hold
		{0, mostMoney, mostPpm, 674, 0, api.ErrRange},         // more by itself: the lower 64 bits would fit
		{0, mostMoney, mostPpm, mostDay, 0, api.ErrRange},
		{mostMicro, mostMoney, mostPpm, mostDay, 0, api.ErrRange},
		{mostMicro, 0, 0, 0, mostMicro, api.OK},
		{mostMicro, mostMoney, mostPpm, 0, mostMicro, api.OK},
		{mostMicro, 1, 365, 1, 0, api.ErrRange},
		{mostMicro - 1, 1, 365, 1, mostMicro, api.OK},
		{mostMicro, 1, 364, mostDay, mostMicro, api.OK},
		{-1, 1, 365, 1, 0, api.ErrArg}, // together it would be 0
		{mostMicro + 1, 0, 0, 0, 0, api.ErrArg},
		{math.MinInt64, 0, 0, 0, 0, api.ErrArg},
		{math.MaxInt64, 1, 365, 1, 0, api.ErrArg},
		{0, -1, 1, 1, 0, api.ErrArg},
		{0, 1, -1, 1, 0, api.ErrArg},
		{0, 0, -1, 0, 0, api.ErrArg}, // also where there is nothing to add
		{0, -1, 0, 0, 0, api.ErrArg},
		{0, mostMoney + 1, 0, 0, 0, api.ErrArg},
		{0, 0, mostPpm + 1, 0, 0, api.ErrArg},
		{0, 1, 1, -1, 0, api.ErrArg},
		{136986301, 1000000, 50000, -1, 0, api.ErrArg}, // it would be 0
		{0, 0, 0, mostDay + 1, 0, api.ErrArg},
		{0, 0, 0, 1<<32 + 1, 0, api.ErrArg},
		{0, 0, 1<<32 + 1, 0, 0, api.ErrArg},
		{mostMicro, mostMoney, mostPpm, mostDay + 1, 0, api.ErrArg}, // named ahead of ErrRange
		{mostMicro, mostMoney + 1, mostPpm, mostDay, 0, api.ErrArg},
		{mostMicro, mostMoney, mostPpm + 1, mostDay, 0, api.ErrArg},
		{mostMicro + 1, mostMoney, mostPpm, mostDay, 0, api.ErrArg},
	} {
		adds(t, x.have, x.principal, x.ppm, x.days, x.want, x.e)
	}
}

func TestAddOfEdges(t *testing.T) {
	for _, have := range haves() {
		for _, principal := range principals() {
			for _, ppm := range rates() {
				for _, days := range stretches() {
					want, e := added(have, principal, ppm, days)
					adds(t, have, principal, ppm, days, want, e)
				}
			}
		}
	}
}

func TestAddOfAllDays(t *testing.T) {
	for _, x := range [][3]int64{
		{0, 1000000, 50000}, {0, mostMoney, mostPpm}, {mostMicro, mostMoney, mostPpm}, {0, mostMoney, 416378},
		{mostMicro - 1000, 1, 365}, {mostMicro / 2, 9999999999999, 45300}, {13, 365, 1},
	} {
		for days := int64(-1); days <= mostDay+1; days++ {
			want, e := added(x[0], x[1], x[2], days)
			adds(t, x[0], x[1], x[2], days, want, e)
		}
	}
}

// brim takes what is there to the bound: just up to it, and one beyond.
func brim(t *testing.T, principal, ppm, days int64) {
	t.Helper()
	rise, e := added(0, principal, ppm, days)
	if e != api.OK {
		adds(t, 0, principal, ppm, days, 0, api.ErrRange)
		return
	}
	adds(t, mostMicro-rise, principal, ppm, days, mostMicro, api.OK)
	if rise > 0 {
		adds(t, mostMicro-rise+1, principal, ppm, days, 0, api.ErrRange)
	}
}

func TestAddAtTheBound(t *testing.T) {
	r := rand.New(rand.NewSource(2))
	for range 100000 {
		principal, ppm, days := r.Int63n(mostMoney+1), r.Int63n(mostPpm+1), r.Int63n(mostDay+1)
		brim(t, principal, ppm, days)
		brim(t, principal, ppm, days%100)
		brim(t, principal%100000000, ppm, days)
	}
}

// What went beyond must leave nothing behind for the call that follows it.
func TestAddBehindAnError(t *testing.T) {
	for range 3 {
		adds(t, mostMicro, mostMoney, mostPpm, mostDay, 0, api.ErrRange)
		adds(t, 7, 1000000, 50000, 1, 136986308, api.OK)
		adds(t, -1, 1000000, 50000, 1, 0, api.ErrArg)
		adds(t, 7, 1000000, 50000, 2, 273972609, api.OK)
	}
}

// P13.2

func TestWhole(t *testing.T) {
	for _, x := range []struct{ micro, want int64 }{
		{0, 0},
		{1, 0},
		{api.Micro - 1, 0},
		{api.Micro, 1},
		{api.Micro + 1, 1},
		{2*api.Micro - 1, 1},
		{2 * api.Micro, 2},
		{136986301, 136},
		{mostMicro - 1, 999999999999},
		{mostMicro, 1000000000000},
		{mostMicro + 1, 1000000000000}, // any number is taken
		{math.MaxInt64, 9223372036854},
		{-1, 0},
		{-api.Micro + 1, 0},
		{-api.Micro, 0},
		{-api.Micro - 1, 0},
		{-mostMicro, 0},
		{math.MinInt64, 0},
	} {
		if n := accrue.Whole(x.micro); n != x.want {
			t.Errorf("Whole(%d) is %d, not %d", x.micro, n, x.want)
		}
	}
}

// cuts holds Whole against what it shall be: cents that go into it, and no one more.
func cuts(t *testing.T, micro int64) {
	t.Helper()
	n := big.NewInt(accrue.Whole(micro))
	rest := n.Sub(big.NewInt(micro), n.Mul(n, big.NewInt(api.Micro)))
	if rest.Sign() < 0 || rest.Cmp(big.NewInt(api.Micro)) >= 0 {
		t.Fatalf("Whole(%d) leaves %v", micro, rest)
	}
}

func TestWholeOfAny(t *testing.T) {
	r := rand.New(rand.NewSource(3))
	for range 100000 {
		micro := r.Int63()
		cuts(t, micro)
		cuts(t, micro%mostMicro)
		cuts(t, micro%(3*api.Micro))
		if n := accrue.Whole(-micro - 1); n != 0 {
			t.Fatalf("Whole(%d) is %d", -micro-1, n)
		}
	}
}

func takes(t *testing.T, micro, cents, want int64, e api.Errno) {
	t.Helper()
	if n, f := accrue.Take(micro, cents); n != want || f != e {
		t.Fatalf("Take(%d, %d) is %d, %v, not %d, %v", micro, cents, n, f, want, e)
	}
}

func TestTakeByCases(t *testing.T) {
	for _, x := range []struct {
		micro, cents, want int64
		e                  api.Errno
	}{
		{0, 0, 0, api.OK},
		{0, 1, 0, api.ErrArg},
		{1, 0, 1, api.OK},
		{api.Micro - 1, 0, api.Micro - 1, api.OK},
		{api.Micro - 1, 1, 0, api.ErrArg},
		{api.Micro, 1, 0, api.OK},
		{api.Micro, 0, api.Micro, api.OK},
		{api.Micro, 2, 0, api.ErrArg},
		{2500000, 2, 500000, api.OK},
		{2500000, 1, 1500000, api.OK},
		{2500000, 3, 0, api.ErrArg},
		{136986301, 136, 986301, api.OK},
		{136986301, 137, 0, api.ErrArg},
		{mostMicro, 0, mostMicro, api.OK},
		{mostMicro, 1, mostMicro - api.Micro, api.OK},
		{mostMicro, 1000000000000, 0, api.OK},
		{mostMicro, 1000000000001, 0, api.ErrArg},
		{mostMicro - 1, 999999999999, 999999, api.OK},
		{mostMicro - 1, 1000000000000, 0, api.ErrArg},
		{mostMicro + 1, 0, 0, api.ErrArg},
		{mostMicro + 1, 1, 0, api.ErrArg},
		{math.MaxInt64, 0, 0, api.ErrArg},
		{math.MaxInt64, 9223372036854, 0, api.ErrArg},
		{-1, 0, 0, api.ErrArg},
		{-1, -1, 0, api.ErrArg},
		{-api.Micro, -1, 0, api.ErrArg},
		{math.MinInt64, 0, 0, api.ErrArg},
		{0, -1, 0, api.ErrArg},
		{api.Micro, -1, 0, api.ErrArg},
		{mostMicro, -1, 0, api.ErrArg},
		{mostMicro, math.MinInt64, 0, api.ErrArg},
		{mostMicro, math.MaxInt64, 0, api.ErrArg},
		{mostMicro, 1 << 58, 0, api.ErrArg}, // times a million it would wrap round to 0
	} {
		takes(t, x.micro, x.cents, x.want, x.e)
	}
}

func TestTakeOfEdges(t *testing.T) {
	for _, micro := range append(haves(), 2500000) {
		whole := int64(0)
		if fits(micro, mostMicro) {
			whole = micro / api.Micro
		}
		for _, cents := range append(around(whole), around(mostMicro/api.Micro)...) {
			want, e := int64(0), api.ErrArg
			if fits(micro, mostMicro) && fits(cents, whole) {
				want, e = micro-cents*api.Micro, api.OK
			}
			takes(t, micro, cents, want, e)
		}
	}
}

// Whatever is taken, whole cents and what is below a cent go on adding up.
func TestTakeAndWholeHoldTogether(t *testing.T) {
	r := rand.New(rand.NewSource(4))
	for range 100000 {
		micro := r.Int63n(mostMicro + 1)
		whole := accrue.Whole(micro)
		cents := r.Int63n(whole + 1)
		left, e := accrue.Take(micro, cents)
		if e != api.OK || left+cents*api.Micro != micro || accrue.Whole(left) != whole-cents {
			t.Fatalf("Take(%d, %d) is %d, %v", micro, cents, left, e)
		}
		takes(t, micro, whole, micro%api.Micro, api.OK)
		takes(t, micro, whole+1, 0, api.ErrArg)
	}
}

// P13.3

// cut holds days and days more against all at once, errors too: what was beyond stays beyond.
func cut(t *testing.T, have, principal int64, ppm, first, more int) {
	t.Helper()
	whole, e := accrue.Add(have, principal, ppm, first+more)
	n, f := accrue.Add(have, principal, ppm, first)
	if f == api.OK {
		n, f = accrue.Add(n, principal, ppm, more)
	}
	if n != whole || f != e {
		t.Fatalf("Add(%d, %d, %d) of %d and %d days is %d, %v, not %d, %v", have, principal, ppm, first, more, n, f, whole, e)
	}
}

func TestDaysAddUp(t *testing.T) {
	for first := range 400 {
		for more := range 400 {
			cut(t, 999999, 1000003, 45300, first, more)
			cut(t, 0, mostMoney, mostPpm/10, first, more)
		}
	}
	r := rand.New(rand.NewSource(5))
	for range 100000 {
		have, principal, ppm := r.Int63n(mostMicro+1), r.Int63n(mostMoney+1), r.Intn(mostPpm+1)
		days := r.Intn(mostDay + 1)
		first := r.Intn(days + 1)
		cut(t, have, principal, ppm, first, days-first)
		cut(t, have%(100*api.Micro), principal%100000000, ppm, first, days-first)
		cut(t, have%(100*api.Micro), principal, ppm, first%20, days%20)
	}
}

func TestDayByDay(t *testing.T) {
	for _, x := range []struct {
		principal int64
		ppm, days int
	}{{1000000, 50000, 3650}, {1200001, 45301, mostDay}, {1, 364, 1000}, {mostMoney, 3333, mostDay / 10}, {mostMoney, mostPpm, 36}} {
		a, e := accrue.Daily(x.principal, x.ppm)
		if e != api.OK {
			t.Fatalf("Daily(%d, %d): %v", x.principal, x.ppm, e)
		}
		n := int64(0)
		for day := range x.days {
			adds(t, n, x.principal, int64(x.ppm), 1, n+a, api.OK)
			n += a
			adds(t, 0, x.principal, int64(x.ppm), int64(day+1), n, api.OK)
		}
	}
}
