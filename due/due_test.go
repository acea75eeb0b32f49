package due_test

import (
	"math"
	"slices"
	"testing"
	"time"

	"annuity/api"
	"annuity/date"
	"annuity/due"
)

const (
	months = 2880
	inTime = 15
)

// none are numbers that are no day, and no month either.
func none() []int {
	return []int{math.MinInt, math.MinInt + 1, math.MinInt + 15, math.MinInt32, -87659, -366, -31, -16, -15, -2, -1, api.MaxDay + 1, api.MaxDay + 15, api.MaxDay + 16, 100000, math.MaxInt32, 1 << 32, math.MaxInt - 16, math.MaxInt - 15, math.MaxInt - 14, math.MaxInt - 1, math.MaxInt}
}

// firsts are the first days of all months, as the library has them; the month's number is its place.
func firsts() []int {
	zero := time.Date(1960, 1, 1, 0, 0, 0, 0, time.UTC)
	l := make([]int, months)
	for m := range l {
		l[m] = int(time.Date(1960, time.Month(m+1), 1, 0, 0, 0, 0, time.UTC).Sub(zero) / (24 * time.Hour))
	}
	return l
}

// edges are days beside the first ones of some months, and -1 if that is asked for.
func edges(ahead bool) []int {
	var l []int
	if ahead {
		l = append(l, -1)
	}
	for m, first := range firsts() {
		if m < 4 || m >= months-4 || m%71 == 0 || m == 481 {
			l = append(l, max(first-1, 0), first, first+1, first+14)
		}
	}
	l = append(l, api.MaxDay-1, api.MaxDay)
	slices.Sort(l)
	return slices.Compact(l)
}

// P5.1

func TestMonthsByCases(t *testing.T) {
	for _, x := range []struct {
		from, to int
		want     []int
	}{
		{0, 31, []int{1}},
		{0, 30, nil},
		{0, 0, nil},
		{-1, 0, []int{0}},
		{-1, 30, []int{0}},
		{-1, 31, []int{0, 1}},
		{30, 31, []int{1}},
		{31, 31, nil}, // the first day itself is not above it
		{31, 32, nil},
		{31, 59, nil},
		{31, 60, []int{2}},
		{30, 60, []int{1, 2}},
		{0, 366, []int{1, 2, 3, 4, 5, 6, 7, 8, 9, 10, 11, 12}},
		{0, 365, []int{1, 2, 3, 4, 5, 6, 7, 8, 9, 10, 11}},
		{14669, 14670, []int{482}},
		{api.MaxDay - 31, api.MaxDay - 30, []int{months - 1}},
		{api.MaxDay - 31, api.MaxDay, []int{months - 1}},
		{api.MaxDay - 30, api.MaxDay, nil},
		{api.MaxDay, api.MaxDay, nil},
	} {
		if l := due.Months(x.from, x.to); !slices.Equal(l, x.want) {
			t.Errorf("Months(%d, %d) is %v", x.from, x.to, l)
		}
	}
}

func TestMonthsOfAllDays(t *testing.T) {
	all := due.Months(-1, api.MaxDay)
	if len(all) != months || all[0] != 0 || all[months-1] != months-1 {
		t.Fatalf("there are %d months", len(all))
	}
}

func TestMonthsOfManyStretches(t *testing.T) {
	first := firsts()
	for _, from := range edges(true) {
		for _, to := range edges(false) {
			if from > to {
				continue
			}
			var want []int
			for m, n := range first {
				if n > from && n <= to {
					want = append(want, m)
				}
			}
			if l := due.Months(from, to); !slices.Equal(l, want) {
				t.Fatalf("Months(%d, %d) is %v", from, to, l)
			}
		}
	}
}

func hasNoMonths(t *testing.T, from, to int) {
	t.Helper()
	if l := due.Months(from, to); len(l) != 0 {
		t.Errorf("Months(%d, %d) are %d", from, to, len(l))
	}
}

func TestMonthsOfNoStretch(t *testing.T) {
	for _, n := range none() {
		for _, day := range []int{-1, 0, 31, 14669, api.MaxDay} {
			if n != -1 {
				hasNoMonths(t, n, day)
			}
			hasNoMonths(t, day, n)
		}
		for _, m := range none() {
			hasNoMonths(t, n, m)
		}
	}
	for _, x := range [][2]int{{31, 30}, {60, 0}, {60, 31}, {1, 0}, {api.MaxDay, 0}, {api.MaxDay, api.MaxDay - 30}, {api.MaxDay, -1}, {0, -1}} {
		hasNoMonths(t, x[0], x[1])
	}
}

func TestMonthsAreNewMemory(t *testing.T) {
	a, b := due.Months(-1, 366), due.Months(-1, 366)
	for i := range a[:cap(a)] {
		a[:cap(a)][i] = -7
	}
	if want := []int{0, 1, 2, 3, 4, 5, 6, 7, 8, 9, 10, 11, 12}; !slices.Equal(b, want) || !slices.Equal(due.Months(-1, 366), want) {
		t.Errorf("Months(-1, 366) became %v", b)
	}
}

func TestInTimeAndLateByCases(t *testing.T) {
	for _, x := range []struct {
		month, day int
		in         bool
		late       int
	}{
		{1, 31, true, 0},
		{1, 45, true, 0},
		{1, 46, true, 0},
		{1, 47, false, 1},
		{1, 50, false, 4},
		{1, 0, true, 0}, // ahead of the month is in time as well
		{0, 0, true, 0},
		{0, 15, true, 0},
		{0, 16, false, 1},
		{0, api.MaxDay, false, api.MaxDay - 15},
		{12, 366 + 15, true, 0},
		{12, 366 + 16, false, 1},
		{481, 14669, false, 13},
		{months - 1, 0, true, 0},
		{months - 1, api.MaxDay - 15, true, 0},
		{months - 1, api.MaxDay - 14, false, 1},
		{months - 1, api.MaxDay, false, 15},
	} {
		if g := due.InTime(x.month, x.day); g != x.in {
			t.Errorf("InTime(%d, %d) is %v", x.month, x.day, g)
		}
		if g := due.Late(x.month, x.day); g != x.late {
			t.Errorf("Late(%d, %d) is %d", x.month, x.day, g)
		}
	}
}

func TestInTimeAndLateOfManyDays(t *testing.T) {
	for month, first := range firsts() {
		for day := 0; day <= api.MaxDay; day++ {
			if day > first+70 {
				day = min(day+4999, api.MaxDay)
			} else if day < first-40 {
				day = min(day+4999, first-40)
			}
			last := first + inTime
			if g := due.InTime(month, day); g != (day <= last) {
				t.Fatalf("InTime(%d, %d) is %v", month, day, g)
			}
			if g := due.Late(month, day); g != max(0, day-last) {
				t.Fatalf("Late(%d, %d) is %d", month, day, g)
			}
		}
	}
}

func isNeither(t *testing.T, month, day int) {
	t.Helper()
	if due.InTime(month, day) {
		t.Errorf("InTime(%d, %d) is true", month, day)
	}
	if n := due.Late(month, day); n != 0 {
		t.Errorf("Late(%d, %d) is %d", month, day, n)
	}
}

func TestInTimeAndLateOfNone(t *testing.T) {
	for _, month := range append(none(), months, months+1, -12, -months) {
		for _, day := range append(none(), 0, 1, 15, 16, 31, 14669, api.MaxDay) {
			isNeither(t, month, day)
		}
	}
	for _, day := range none() {
		for _, month := range []int{0, 1, 12, 481, months - 1} {
			isNeither(t, month, day)
		}
	}
}

// P5.2

func TestYearByCases(t *testing.T) {
	for _, x := range []struct{ day, n, want int }{
		{0, 0, 0},
		{0, 1, 366},
		{0, 2, 366 + 365},
		{59, 1, 366 + 58}, // 1960-02-29
		{59, 4, 1461 + 59},
		{14669, 0, 14669},
		{14669, 1, 15034},
		{14669, 4, 14669 + 1461},
		{14669, 100, 51193}, // 2100-02-28
		{0, 239, api.MaxDay - 364},
		{365, 239, api.MaxDay},
		{api.MaxDay, 0, api.MaxDay},
		{api.MaxDay - 365, 1, api.MaxDay},
	} {
		if g, e := due.Year(x.day, x.n); g != x.want || e != api.OK {
			t.Errorf("Year(%d, %d) is %d, %v", x.day, x.n, g, e)
		}
	}
}

func TestYearIsAdd(t *testing.T) {
	for _, day := range append(edges(true), none()...) {
		for n := 0; n <= 240; n++ {
			want, e := date.Add(day, 12*n)
			if g, f := due.Year(day, n); g != want || f != e {
				t.Fatalf("Year(%d, %d) is %d, %v, not %d, %v", day, n, g, f, want, e)
			}
		}
	}
}

func refusesYear(t *testing.T, day, n int, want api.Errno) {
	t.Helper()
	if g, e := due.Year(day, n); g != 0 || e != want {
		t.Errorf("Year(%d, %d) is %d, %v", day, n, g, e)
	}
}

func TestYearRefuses(t *testing.T) {
	far := []int{math.MinInt, math.MinInt/12 - 1, -1 << 61, -240, -12, -1, 241, 2880, 1 << 32, 1 << 61, 1<<62 + 1, math.MaxInt/12 + 1, math.MaxInt}
	for _, n := range far { // ahead of what is wrong with the day
		for _, day := range append(none(), 0, 31, 14669, api.MaxDay) {
			refusesYear(t, day, n, api.ErrArg)
		}
	}
	for _, n := range []int{0, 1, 239, 240} {
		for _, day := range none() {
			refusesYear(t, day, n, api.ErrDate)
		}
	}
	for _, x := range [][2]int{{0, 240}, {366, 239}, {api.MaxDay, 1}, {api.MaxDay - 364, 1}, {14669, 200}} {
		refusesYear(t, x[0], x[1], api.ErrDate)
	}
}

func TestWholeByCases(t *testing.T) {
	for _, x := range []struct{ from, to, want int }{
		{0, 0, 0},
		{0, 30, 0},
		{0, 31, 1},
		{0, 59, 1},
		{0, 60, 2},
		{1, 31, 0},
		{1, 32, 1},
		{30, 31, 0},
		{30, 58, 0},
		{30, 59, 1}, // 1960-01-31 to 1960-02-29, which February ends with
		{30, 60, 1},
		{30, 89, 1},
		{30, 90, 2}, // 1960-03-31
		{0, 365, 11},
		{0, 366, 12},
		{14669, 15033, 11},
		{14669, 15034, 12}, // 2000-02-29 to 2001-02-28
		{0, api.MaxDay, months - 1},
		{30, api.MaxDay, months - 1},
		{31, api.MaxDay, months - 2},
		{0, api.MaxDay - 31, months - 2},
		{30, api.MaxDay - 1, months - 2},
		{api.MaxDay, api.MaxDay, 0},
		{api.MaxDay - 30, api.MaxDay, 0},
		{api.MaxDay - 60, api.MaxDay, 1},
	} {
		if g := due.Whole(x.from, x.to); g != x.want {
			t.Errorf("Whole(%d, %d) is %d", x.from, x.to, g)
		}
	}
}

// Whole months rise as Add reaches the days one by one.
func TestWholeOfManyStretches(t *testing.T) {
	var froms []int
	for from := 0; from < 800; from += 3 {
		froms = append(froms, from, api.MaxDay-from)
	}
	for from := 14600; from < 14700; from++ {
		froms = append(froms, from)
	}
	for _, from := range froms {
		k := 0
		for to := from; to <= min(from+1500, api.MaxDay); to++ {
			if next, e := date.Add(from, k+1); e == api.OK && next <= to {
				k++
			}
			if g := due.Whole(from, to); g != k {
				t.Fatalf("Whole(%d, %d) is %d, not %d", from, to, g, k)
			}
		}
	}
}

func TestWholeIsTheGreatest(t *testing.T) {
	for _, from := range edges(false) {
		for _, to := range edges(false) {
			if from > to {
				continue
			}
			k := due.Whole(from, to)
			if n, e := date.Add(from, k); k < 0 || e != api.OK || n > to {
				t.Fatalf("Whole(%d, %d) is %d, which is too many", from, to, k)
			}
			if n, e := date.Add(from, k+1); e == api.OK && n <= to {
				t.Fatalf("Whole(%d, %d) is %d, which is too few", from, to, k)
			}
		}
	}
}

func TestWholeOfNoStretch(t *testing.T) {
	zero := func(from, to int) {
		t.Helper()
		if k := due.Whole(from, to); k != 0 {
			t.Errorf("Whole(%d, %d) is %d", from, to, k)
		}
	}
	for _, n := range none() {
		for _, day := range append(none(), 0, 31, 14669, api.MaxDay) {
			zero(n, day)
			zero(day, n)
		}
	}
	for _, x := range [][2]int{{1, 0}, {31, 0}, {60, 31}, {15034, 14669}, {api.MaxDay, 0}, {api.MaxDay, api.MaxDay - 31}} {
		zero(x[0], x[1])
	}
}

// P5.3

func TestMonthsOfStretchesThatFollow(t *testing.T) {
	l := edges(true)
	for i := 0; i < len(l); i += 5 {
		for k := i; k < len(l); k++ {
			a, c := l[i], l[k]
			both := due.Months(a, c)
			for j := i; j <= k; j += 1 + len(l)/23 {
				b := l[j]
				if g := append(due.Months(a, b), due.Months(b, c)...); !slices.Equal(g, both) {
					t.Fatalf("Months(%d, %d) and Months(%d, %d) are not Months(%d, %d)", a, b, b, c, a, c)
				}
			}
		}
	}
}

// Day by day, each month comes once, on its first day.
func TestMonthsComeDayByDay(t *testing.T) {
	first := firsts()
	next := 0
	for day := range api.MaxDay + 1 {
		var want []int
		if next < months && day == first[next] {
			want = []int{next}
			next++
		}
		if l := due.Months(day-1, day); !slices.Equal(l, want) {
			t.Fatalf("Months(%d, %d) is %v", day-1, day, l)
		}
	}
}
