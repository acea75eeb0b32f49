package money_test

import (
	"math"
	"math/big"
	"slices"
	"testing"

	"annuity/api"
	"annuity/money"
)

const most = api.MaxMoney

// edges are numbers around all bounds that the chapter names, and some between them.
func edges() []int64 {
	return []int64{
		math.MinInt64, math.MinInt64 + 1, -most - 2, -most - 1, -most, -most + 1, -most / 2, -1000003, -3, -2, -1,
		0, 1, 2, 3, 4, 5, 7, 1000003, most / 2, most - 1, most, most + 1, 2*most - 1, 2 * most, 2*most + 1, math.MaxInt64 - 1, math.MaxInt64,
	}
}

func words() []uint64 {
	l := []uint64{1 << 63, math.MaxUint64 - 1, math.MaxUint64}
	for _, a := range edges() {
		l = append(l, uint64(a))
	}
	return l
}

func inMoney(n *big.Int) bool { return n.CmpAbs(big.NewInt(most)) <= 0 }

// asMoney is what a sum or a quotient is told as.
func asMoney(n *big.Int) (int64, api.Errno) {
	if !inMoney(n) {
		return 0, api.ErrRange
	}
	return n.Int64(), api.OK
}

// P1.1

func TestGood(t *testing.T) {
	for _, a := range edges() {
		if g := money.Good(a); g != inMoney(big.NewInt(a)) {
			t.Errorf("Good(%d) is %v", a, g)
		}
	}
}

func TestAddAndSubByCases(t *testing.T) {
	for _, x := range []struct {
		a, b, sum, rest int64
		e, f            api.Errno
	}{
		{0, 0, 0, 0, api.OK, api.OK},
		{5, 7, 12, -2, api.OK, api.OK},
		{-5, 7, 2, -12, api.OK, api.OK},
		{most, 0, most, most, api.OK, api.OK},
		{most, 1, 0, most - 1, api.ErrRange, api.OK},
		{-most, 1, 1 - most, 0, api.OK, api.ErrRange},
		{-most, -1, 0, 1 - most, api.ErrRange, api.OK},
		{most, most, 0, 0, api.ErrRange, api.OK},
		{most, -most, 0, 0, api.OK, api.ErrRange},
		{most + 1, -1, 0, 0, api.ErrRange, api.ErrRange}, // the sum would be money, but not what is added
		{-1, most + 1, 0, 0, api.ErrRange, api.ErrRange},
		{1, most + 1, 0, 0, api.ErrRange, api.ErrRange},
		{-most - 1, 1, 0, 0, api.ErrRange, api.ErrRange},
		{-1, -most - 1, 0, 0, api.ErrRange, api.ErrRange},
		{math.MaxInt64, math.MinInt64, 0, 0, api.ErrRange, api.ErrRange},
		{math.MinInt64, math.MinInt64, 0, 0, api.ErrRange, api.ErrRange},
		{math.MaxInt64, 1, 0, 0, api.ErrRange, api.ErrRange},
	} {
		if n, e := money.Add(x.a, x.b); n != x.sum || e != x.e {
			t.Errorf("Add(%d, %d) is %d, %v", x.a, x.b, n, e)
		}
		if n, e := money.Sub(x.a, x.b); n != x.rest || e != x.f {
			t.Errorf("Sub(%d, %d) is %d, %v", x.a, x.b, n, e)
		}
	}
}

func TestAddAndSubOfEdges(t *testing.T) {
	for _, a := range edges() {
		for _, b := range edges() {
			x, y := big.NewInt(a), big.NewInt(b)
			sum, e := asMoney(new(big.Int).Add(x, y))
			rest, f := asMoney(new(big.Int).Sub(x, y))
			if !inMoney(x) || !inMoney(y) {
				sum, e, rest, f = 0, api.ErrRange, 0, api.ErrRange
			}
			if n, g := money.Add(a, b); n != sum || g != e {
				t.Errorf("Add(%d, %d) is %d, %v", a, b, n, g)
			}
			if n, g := money.Sub(a, b); n != rest || g != f {
				t.Errorf("Sub(%d, %d) is %d, %v", a, b, n, g)
			}
		}
	}
}

func TestSum(t *testing.T) {
	for _, x := range []struct {
		l []int64
		n int64
		e api.Errno
	}{
		{nil, 0, api.OK},
		{[]int64{}, 0, api.OK},
		{[]int64{-7}, -7, api.OK},
		{[]int64{1, 2, -5, 4}, 2, api.OK},
		{[]int64{most, -most, most}, most, api.OK},
		{[]int64{most - 1, 1}, most, api.OK},
		{[]int64{-most + 1, -1}, -most, api.OK},
		{[]int64{most, -1, 1}, most, api.OK},
		{[]int64{most, 1, -1}, 0, api.ErrRange}, // too great on the way
		{[]int64{-most, -1, 1}, 0, api.ErrRange},
		{[]int64{-1, most + 1}, 0, api.ErrRange},
		{[]int64{1, -most - 1}, 0, api.ErrRange},
		{[]int64{most + 1}, 0, api.ErrRange},
		{[]int64{math.MaxInt64, math.MaxInt64, 2}, 0, api.ErrRange}, // together 0, where they wrap round
		{[]int64{math.MinInt64}, 0, api.ErrRange},
	} {
		was := slices.Clone(x.l)
		if n, e := money.Sum(x.l); n != x.n || e != x.e {
			t.Errorf("Sum(%v) is %d, %v", x.l, n, e)
		}
		if !slices.Equal(was, x.l) {
			t.Errorf("Sum(%v) made %v of it", was, x.l)
		}
	}
}

// An error must leave nothing behind for the call that follows it.
func TestSumsBehindAnError(t *testing.T) {
	for range 3 {
		if n, e := money.Add(most, 1); n != 0 || e != api.ErrRange {
			t.Errorf("Add(most, 1) is %d, %v", n, e)
		}
		if n, e := money.Sum([]int64{1, 2}); n != 3 || e != api.OK {
			t.Errorf("Sum(1, 2) is %d, %v", n, e)
		}
	}
}

// P1.2

func TestMulDivByCases(t *testing.T) {
	for _, x := range []struct {
		a, b, c        int64
		down, up, even int64
	}{
		{0, 0, 1, 0, 0, 0},
		{0, math.MaxInt64, 1, 0, 0, 0},
		{6, 1, 3, 2, 2, 2},
		{4, 1, 3, 1, 2, 1},
		{5, 1, 3, 1, 2, 2},
		{1, 1, 2, 0, 1, 0},
		{3, 1, 2, 1, 2, 2},
		{5, 1, 2, 2, 3, 2},
		{7, 1, 2, 3, 4, 4},
		{1, 1, math.MaxInt64, 0, 1, 0},
		{math.MaxInt64 / 2, 1, math.MaxInt64, 0, 1, 0},
		{math.MaxInt64/2 + 1, 1, math.MaxInt64, 0, 1, 1},
		{most, 1, 1, most, most, most},
		{most, math.MaxInt64, math.MaxInt64, most, most, most},
		{math.MaxInt64, most - 1, math.MaxInt64 - 1, most - 1, most, most - 1},
	} {
		for how, want := range []int64{x.down, x.up, x.even} {
			if n, e := money.MulDiv(x.a, x.b, x.c, how); n != want || e != api.OK {
				t.Errorf("MulDiv(%d, %d, %d, %d) is %d, %v", x.a, x.b, x.c, how, n, e)
			}
		}
	}
}

func TestMulDivRefuses(t *testing.T) {
	for _, x := range []struct {
		a, b, c int64
		how     int
		e       api.Errno
	}{
		{-1, 1, 1, money.Down, api.ErrArg},
		{1, -1, 1, money.Down, api.ErrArg},
		{-1, -1, 1, money.Down, api.ErrArg},
		{math.MinInt64, 0, 1, money.Down, api.ErrArg},
		{1, 1, 0, money.Down, api.ErrArg},
		{1, 1, -1, money.Down, api.ErrArg},
		{0, 0, math.MinInt64, money.Even, api.ErrArg},
		{1, 1, 1, -1, api.ErrArg},
		{1, 1, 1, 3, api.ErrArg},
		{1, 1, 1, math.MaxInt, api.ErrArg},
		{1, 1, 1, math.MinInt, api.ErrArg},
		{math.MaxInt64, math.MaxInt64, 1, 3, api.ErrArg}, // named ahead of ErrRange
		{most + 1, 1, 1, money.Down, api.ErrRange},
		{2*most + 1, 1, 2, money.Up, api.ErrRange},
		{2*most + 2, 1, 2, money.Down, api.ErrRange},
		{3*most + 2, 1, 3, money.Even, api.ErrRange},
		{math.MaxInt64, math.MaxInt64, 1, money.Down, api.ErrRange},
		{math.MaxInt64, math.MaxInt64, math.MaxInt64, money.Up, api.ErrRange},
		{math.MaxInt64, 3, 1, money.Even, api.ErrRange},
		{1 << 62, 4, 1, money.Down, api.ErrRange}, // the product's lower 64 bits are 0
		// the quotient is 2 to the 64, less 1, and a rest: rounded up it would wrap round to 0
		{math.MaxInt64 - 2, 3074457345618258603, 1537228672809129301, money.Up, api.ErrRange},
		{math.MaxInt64 - 2, 3074457345618258603, 1537228672809129301, money.Even, api.ErrRange},
	} {
		if n, e := money.MulDiv(x.a, x.b, x.c, x.how); n != 0 || e != x.e {
			t.Errorf("MulDiv(%d, %d, %d, %d) is %d, %v", x.a, x.b, x.c, x.how, n, e)
		}
	}
}

// rounded is a times b by c in numbers of any length.
func rounded(a, b, c int64, how int) *big.Int {
	p := new(big.Int).Mul(big.NewInt(a), big.NewInt(b))
	q, r := new(big.Int).QuoRem(p, big.NewInt(c), new(big.Int))
	half := new(big.Int).Lsh(r, 1).Cmp(big.NewInt(c))
	if how == money.Up && r.Sign() > 0 || how == money.Even && (half > 0 || half == 0 && q.Bit(0) == 1) {
		q.Add(q, big.NewInt(1))
	}
	return q
}

func TestMulDivOfEdges(t *testing.T) {
	for _, a := range edges() {
		for _, b := range edges() {
			for _, c := range edges() {
				for how := money.Down; how <= money.Even; how++ {
					want, f := int64(0), api.ErrArg
					if a >= 0 && b >= 0 && c > 0 {
						want, f = asMoney(rounded(a, b, c, how))
					}
					if n, e := money.MulDiv(a, b, c, how); n != want || e != f {
						t.Fatalf("MulDiv(%d, %d, %d, %d) is %d, %v", a, b, c, how, n, e)
					}
				}
			}
		}
	}
}

// P1.3

func wide(hi, lo uint64) *big.Int {
	n := new(big.Int).SetUint64(hi)
	return n.Lsh(n, 64).Add(n, new(big.Int).SetUint64(lo))
}

func TestMul(t *testing.T) {
	for _, a := range words() {
		for _, b := range words() {
			want := new(big.Int).Mul(new(big.Int).SetUint64(a), new(big.Int).SetUint64(b))
			if hi, lo := money.Mul(a, b); wide(hi, lo).Cmp(want) != 0 {
				t.Errorf("Mul(%d, %d) is %d, %d", a, b, hi, lo)
			}
		}
	}
}

func TestDivByCases(t *testing.T) {
	for _, x := range []struct {
		hi, lo, c, q, r uint64
		ok              bool
	}{
		{0, 0, 1, 0, 0, true},
		{0, 7, 2, 3, 1, true},
		{0, 2, 7, 0, 2, true},
		{1, 0, 2, 1 << 63, 0, true},
		{math.MaxUint64 - 1, math.MaxUint64, math.MaxUint64, math.MaxUint64, math.MaxUint64 - 1, true},
		{0, 7, 0, 0, 0, false},
		{0, 0, 0, 0, 0, false},
		{math.MaxUint64, 7, 0, 0, 0, false},
		{2, 7, 2, 0, 0, false},
		{3, 7, 2, 0, 0, false},
		{math.MaxUint64, 0, math.MaxUint64, 0, 0, false},
	} {
		if q, r, ok := money.Div(x.hi, x.lo, x.c); q != x.q || r != x.r || ok != x.ok {
			t.Errorf("Div(%d, %d, %d) is %d, %d, %v", x.hi, x.lo, x.c, q, r, ok)
		}
	}
}

func TestDivOfEdges(t *testing.T) {
	for _, hi := range words() {
		for _, lo := range words() {
			for _, c := range words() {
				q, r, ok := money.Div(hi, lo, c)
				if hi >= c {
					if q != 0 || r != 0 || ok {
						t.Fatalf("Div(%d, %d, %d) is %d, %d, %v", hi, lo, c, q, r, ok)
					}
					continue
				}
				back := new(big.Int).Mul(new(big.Int).SetUint64(q), new(big.Int).SetUint64(c))
				back.Add(back, new(big.Int).SetUint64(r))
				if !ok || r >= c || back.Cmp(wide(hi, lo)) != 0 {
					t.Fatalf("Div(%d, %d, %d) is %d, %d, %v", hi, lo, c, q, r, ok)
				}
			}
		}
	}
}

// P1.4

// holdTogether asks the three roundings of one quotient of each other.
func holdTogether(t *testing.T, a, b, c int64) {
	down, e := money.MulDiv(a, b, c, money.Down)
	even, f := money.MulDiv(a, b, c, money.Even)
	up, g := money.MulDiv(a, b, c, money.Up)
	if e != api.OK || f != api.OK || g != api.OK {
		// Only a quotient at the upper bound is money in one rounding, and not in another.
		if e == api.OK && down != most || f == api.OK && e != api.OK || g == api.OK && f != api.OK {
			t.Fatalf("%d by %d by %d: %v, %v, %v", a, b, c, e, f, g)
		}
		return
	}
	whole := new(big.Int).Mul(big.NewInt(a), big.NewInt(b))
	exact := whole.Rem(whole, big.NewInt(c)).Sign() == 0
	if down > even || even > up || up-down > 1 || exact != (down == up) {
		t.Fatalf("%d by %d by %d: %d, %d, %d", a, b, c, down, even, up)
	}
}

func TestRoundingsHoldTogether(t *testing.T) {
	for a := range int64(25) {
		for b := range int64(25) {
			for c := range int64(25) {
				holdTogether(t, a, b, c+1)
			}
		}
	}
	for _, a := range edges() {
		for _, b := range edges() {
			for _, c := range edges() {
				if a >= 0 && b >= 0 && c > 0 {
					holdTogether(t, a, b, c)
				}
			}
		}
	}
}
