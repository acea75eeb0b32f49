package step_test

import (
	"math"
	"math/big"
	"math/rand"
	"testing"

	"annuity/api"
	"annuity/step"
)

const (
	most = api.MaxMoney
	// brim is the greatest level of which half as much again is money yet, brim125 that of which a quarter is.
	brim    = 6666666666666
	brim125 = 8000000000000
)

// modelShare tells the shares step by step.
func modelShare(k int) int {
	switch {
	case k < 0:
		return 0
	case k == 0:
		return 60
	case k == 1:
		return 80
	case k == 2:
		return 100
	case k == 3:
		return 125
	}
	return 150
}

// modelOf goes by numbers of any length.
func modelOf(level int64, months int) (int64, api.Errno) {
	n := new(big.Int).Mul(big.NewInt(level), big.NewInt(int64(modelShare(months/24))))
	n.Add(n, big.NewInt(99)).Quo(n, big.NewInt(100))
	if n.Cmp(big.NewInt(most)) > 0 {
		return 0, api.ErrRange
	}
	return n.Int64(), api.OK
}

func holdOf(t *testing.T, level int64, months int) {
	t.Helper()
	want, wantE := modelOf(level, months)
	if n, e := step.Of(level, months); n != want || e != wantE {
		t.Fatalf("Of(%d, %d) = %d, %v; want %d, %v", level, months, n, e, want, wantE)
	}
}

// P16.1

func TestShareByCases(t *testing.T) {
	cases := []struct{ k, want int }{
		{math.MinInt, 0}, {-5, 0}, {-2, 0}, {-1, 0},
		{0, 60}, {1, 80}, {2, 100}, {3, 125}, {4, 150},
		{5, 150}, {6, 150}, {100, 150}, {1 << 32, 150}, {1<<32 + 1, 150}, {math.MaxInt - 1, 150}, {math.MaxInt, 150},
	}
	for _, c := range cases {
		if n := step.Share(c.k); n != c.want {
			t.Errorf("Share(%d) = %d; want %d", c.k, n, c.want)
		}
	}
}

func TestShareOfMany(t *testing.T) {
	for k := -300; k <= 300; k++ {
		if n := step.Share(k); n != modelShare(k) {
			t.Errorf("Share(%d) = %d; want %d", k, n, modelShare(k))
		}
	}
}

func TestOfByCases(t *testing.T) {
	cases := []struct {
		name   string
		level  int64
		months int
		want   int64
		e      api.Errno
	}{
		{"from the beginning on", 100, 0, 60, api.OK},
		{"the last month of the first step", 100, 23, 60, api.OK},
		{"the first month of the second step", 100, 24, 80, api.OK},
		{"the last month of the second step", 100, 47, 80, api.OK},
		{"the first month of the third step", 100, 48, 100, api.OK},
		{"the last month of the third step", 100, 71, 100, api.OK},
		{"the first month of the fourth step", 100, 72, 125, api.OK},
		{"the last month of the fourth step", 100, 95, 125, api.OK},
		{"the first month of the last step", 100, 96, 150, api.OK},
		{"the last month of the term", 100, 119, 150, api.OK},
		{"behind the term", 100, 120, 150, api.OK},
		{"long behind", 100, math.MaxInt, 150, api.OK},
		{"nothing", 0, 0, 0, api.OK},
		{"nothing, late", 0, math.MaxInt, 0, api.OK},
		{"one cent, up", 1, 0, 1, api.OK},                    // 0.6
		{"one cent, late, up", 1, 96, 2, api.OK},             // 1.5
		{"a little above whole", 101, 0, 61, api.OK},         // 60.6
		{"less than a half above whole", 102, 0, 62, api.OK}, // 61.2
		{"whole", 105, 0, 63, api.OK},
		{"a quarter, up", 1, 72, 2, api.OK}, // 1.25
		{"a usual level", 12345, 0, 7407, api.OK},
		{"a usual level, late", 12345, 100, 18518, api.OK}, // 18517.5
		{"the greatest level at first", most, 0, 6000000000000, api.OK},
		{"the greatest level in the second step", most, 24, 8000000000000, api.OK},
		{"the greatest level whole", most, 71, most, api.OK},
		{"the greatest level and a quarter", most, 72, 0, api.ErrRange},
		{"the greatest level and a half", most, math.MaxInt, 0, api.ErrRange},
		{"up to the brim", brim, 96, 9999999999999, api.OK},
		{"above the brim", brim + 1, 96, 0, api.ErrRange}, // 10000000000000.5, up
		{"above the brim, ahead of the last step", brim + 1, 95, 8333333333334, api.OK},
		{"up to the brim of a quarter", brim125, 72, most, api.OK},
		{"above the brim of a quarter", brim125 + 1, 72, 0, api.ErrRange},
		{"above the brim of a quarter, ahead of it", brim125 + 1, 71, brim125 + 1, api.OK},
	}
	for _, c := range cases {
		if n, e := step.Of(c.level, c.months); n != c.want || e != c.e {
			t.Errorf("%s: Of(%d, %d) = %d, %v; want %d, %v", c.name, c.level, c.months, n, e, c.want, c.e)
		}
	}
}

func TestWrongArguments(t *testing.T) {
	cases := []struct {
		level  int64
		months int
	}{
		{-1, 0}, {-1, 24}, {-100, 96}, {-most, 0}, {math.MinInt64, 0}, {math.MinInt64, math.MaxInt},
		{most + 1, 0}, {most + 1, 24}, {math.MaxInt64, 0}, {math.MaxInt64, math.MaxInt},
		{0, -1}, {100, -1}, {100, -24}, {100, -25}, {most, -1}, {100, math.MinInt}, {0, math.MinInt},
		{-1, -1}, {most + 1, -1}, {math.MinInt64, math.MinInt}, {math.MaxInt64, math.MinInt},
		// It would be too much money also, or be money again: the argument is told first.
		{most + 1, 96}, {math.MaxInt64, 96},
	}
	for _, c := range cases {
		if n, e := step.Of(c.level, c.months); n != 0 || e != api.ErrArg {
			t.Errorf("Of(%d, %d) = %d, %v; want 0, %v", c.level, c.months, n, e, api.ErrArg)
		}
	}
}

func TestEdgesAgainstModel(t *testing.T) {
	levels := []int64{brim - 1, brim, brim + 1, brim125 - 1, brim125, brim125 + 1, most - 1, most}
	for n := int64(0); n <= 250; n++ {
		levels = append(levels, n)
	}
	for _, n := range levels {
		for months := 0; months <= 150; months++ {
			holdOf(t, n, months)
		}
		for _, months := range []int{240, 2400, math.MaxInt32, math.MaxInt32 + 1, 24 << 32, math.MaxInt - 1, math.MaxInt} {
			holdOf(t, n, months)
		}
	}
}

func TestManyAgainstModel(t *testing.T) {
	r := rand.New(rand.NewSource(16))
	for range 50000 {
		holdOf(t, min(r.Int63n(int64(1)<<r.Intn(45)), most), r.Intn(1<<r.Intn(20)))
	}
}

// P16.2

func TestShareNeverFalls(t *testing.T) {
	for k := -10; k < 1000; k++ {
		if a, b := step.Share(k), step.Share(k+1); b < a {
			t.Errorf("Share(%d) = %d, Share(%d) = %d", k, a, k+1, b)
		}
	}
}

// TestNeverFallsMonthByMonth: once it is no money, it never is again.
func TestNeverFallsMonthByMonth(t *testing.T) {
	for _, level := range []int64{0, 1, 2, 3, 7, 99, 100, 101, 12345, brim, brim + 1, brim125, brim125 + 1, most} {
		last, met := int64(0), api.OK
		for months := 0; months <= 1000; months++ {
			n, e := step.Of(level, months)
			if met == api.ErrRange && e != api.ErrRange || e == api.OK && n < last {
				t.Fatalf("Of(%d, %d) = %d, %v: the month before it was %d, %v", level, months, n, e, last, met)
			}
			last, met = n, e
		}
	}
}

func TestWhoseLevelIsMorePaysNoLess(t *testing.T) {
	r := rand.New(rand.NewSource(162))
	for range 20000 {
		level, months := r.Int63n(brim/2), r.Intn(200)
		n, e := step.Of(level, months)
		more, eMore := step.Of(level+r.Int63n(level+1), months+r.Intn(60))
		if e != api.OK || eMore != api.OK || more < n {
			t.Fatalf("level %d, months %d: %d, %v; who owes more, later: %d, %v", level, months, n, e, more, eMore)
		}
	}
}
