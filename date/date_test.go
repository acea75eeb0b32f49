package date_test

import (
	"math"
	"testing"
	"time"

	"annuity/api"
	"annuity/date"
)

const (
	firstYear = 1960
	lastYear  = 2199
	months    = 2880
)

// none are numbers that are no day, and no month either.
func none() []int {
	return []int{math.MinInt, math.MinInt + 1, math.MinInt32 - 1, math.MinInt32, -87659, -366, -2, -1, api.MaxDay + 1, api.MaxDay + 2, 100000, math.MaxInt32, math.MaxInt32 + 1, 1 << 40, math.MaxInt - 1, math.MaxInt}
}

// far are years outside the calendar.
func far() []int {
	return []int{math.MinInt, math.MinInt32, -2000, -1, 0, 1, 60, 1582, 1900, 1958, 1959, 2200, 2201, 2400, math.MaxInt32, 1 << 32, 1<<32 + 2000, math.MaxInt - 1, math.MaxInt}
}

// all are the days of the calendar, as the library has them; the day's number is its place.
func all() []time.Time {
	l := make([]time.Time, 0, api.MaxDay+1)
	for d := time.Date(firstYear, 1, 1, 0, 0, 0, 0, time.UTC); d.Year() <= lastYear; d = d.AddDate(0, 0, 1) {
		l = append(l, d)
	}
	return l
}

// number is a day's number, as the library has it.
func number(d time.Time) int {
	return int(d.Sub(time.Date(firstYear, 1, 1, 0, 0, 0, 0, time.UTC)) / (24 * time.Hour))
}

// length is how many days a month has, as the library has it.
func length(year, month int) int {
	return time.Date(year, time.Month(month)+1, 0, 0, 0, 0, 0, time.UTC).Day()
}

// P4.1

func TestLong(t *testing.T) {
	for _, x := range []struct {
		year int
		long bool
	}{
		{1960, true}, {1961, false}, {1962, false}, {1963, false}, {1964, true},
		{1900, false}, {2000, true}, {2100, false}, {2200, false}, {2300, false}, {2400, true}, {1600, true},
		{2096, true}, {2104, true}, {2196, true}, {2199, false}, {200, false}, {400, true},
		{0, true}, {1, false}, {4, true}, {100, false},
		{-1, false}, {-4, true}, {-100, false}, {-400, true},
		{math.MaxInt, false}, {math.MaxInt - 1, false}, {math.MaxInt - 3, true}, {math.MinInt, true}, {math.MinInt + 1, false},
	} {
		if g := date.Long(x.year); g != x.long {
			t.Errorf("Long(%d) is %v", x.year, g)
		}
	}
	for year := -2500; year <= 2500; year++ {
		if g := date.Long(year); g != (length(year, 2) == 29) {
			t.Errorf("Long(%d) is %v", year, g)
		}
	}
}

func TestDays(t *testing.T) {
	for month, want := range []int{0, 31, 28, 31, 30, 31, 30, 31, 31, 30, 31, 30, 31, 0} {
		if n := date.Days(1961, month); n != want {
			t.Errorf("Days(1961, %d) is %d", month, n)
		}
		if month == 2 {
			want = 29
		}
		if n := date.Days(1960, month); n != want {
			t.Errorf("Days(1960, %d) is %d", month, n)
		}
	}
	for year := -2500; year <= 2500; year++ { // a month has its days in all years
		for month := 1; month <= 12; month++ {
			if n := date.Days(year, month); n != length(year, month) {
				t.Errorf("Days(%d, %d) is %d", year, month, n)
			}
		}
	}
	for _, year := range append(far(), 1960, 1961, 2000, 2100, 2199) {
		for _, month := range append(none(), 0, 13, 14, 24, 1960) {
			if n := date.Days(year, month); n != 0 {
				t.Errorf("Days(%d, %d) is %d", year, month, n)
			}
		}
	}
}

func TestGood(t *testing.T) {
	for n := 0; n <= api.MaxDay; n++ {
		if !date.Good(n) {
			t.Fatalf("Good(%d) is false", n)
		}
	}
	for _, n := range none() {
		if date.Good(n) {
			t.Errorf("Good(%d) is true", n)
		}
	}
}

func TestOfAndCivilByCases(t *testing.T) {
	for _, x := range []struct{ n, year, month, day int }{
		{0, 1960, 1, 1},
		{1, 1960, 1, 2},
		{30, 1960, 1, 31},
		{31, 1960, 2, 1},
		{59, 1960, 2, 29},
		{60, 1960, 3, 1},
		{365, 1960, 12, 31},
		{366, 1961, 1, 1},
		{730, 1961, 12, 31},
		{731, 1962, 1, 1},
		{14669, 2000, 2, 29},
		{14670, 2000, 3, 1},
		{15034, 2001, 2, 28},
		{15035, 2001, 3, 1},
		{api.MaxDay - 1, 2199, 12, 30},
		{api.MaxDay, 2199, 12, 31},
	} {
		if n, e := date.Of(x.year, x.month, x.day); n != x.n || e != api.OK {
			t.Errorf("Of(%d, %d, %d) is %d, %v", x.year, x.month, x.day, n, e)
		}
		if year, month, day, e := date.Civil(x.n); year != x.year || month != x.month || day != x.day || e != api.OK {
			t.Errorf("Civil(%d) is %d, %d, %d, %v", x.n, year, month, day, e)
		}
	}
}

func TestOfAndCivilOfAllDays(t *testing.T) {
	l := all()
	if len(l) != api.MaxDay+1 {
		t.Fatalf("there are %d days", len(l))
	}
	for n, d := range l {
		y, m, day := d.Year(), int(d.Month()), d.Day()
		if g, e := date.Of(y, m, day); g != n || e != api.OK {
			t.Fatalf("Of(%d, %d, %d) is %d, %v", y, m, day, g, e)
		}
		if gy, gm, gd, e := date.Civil(n); gy != y || gm != m || gd != day || e != api.OK {
			t.Fatalf("Civil(%d) is %d, %d, %d, %v", n, gy, gm, gd, e)
		}
	}
}

func refusesDay(t *testing.T, year, month, day int) {
	t.Helper()
	if n, e := date.Of(year, month, day); n != 0 || e != api.ErrDate {
		t.Errorf("Of(%d, %d, %d) is %d, %v", year, month, day, n, e)
	}
}

func TestOfRefuses(t *testing.T) {
	for _, year := range far() {
		refusesDay(t, year, 1, 1)
		refusesDay(t, year, 12, 31)
		refusesDay(t, year, 0, 0)
	}
	for _, year := range []int{1960, 1961, 2000, 2100, 2199} {
		for _, month := range append(none(), 0, 13, 14, 25) {
			for _, day := range []int{0, 1, 28, 31, math.MinInt, math.MaxInt} {
				refusesDay(t, year, month, day)
			}
		}
	}
	for year := firstYear; year <= lastYear; year++ {
		for month := 1; month <= 12; month++ {
			for _, day := range append(none(), 0, 32, 60, length(year, month)+1) {
				refusesDay(t, year, month, day)
			}
		}
	}
	refusesDay(t, 1961, 2, 29)
	refusesDay(t, 2100, 2, 29)
	refusesDay(t, 2000, 2, 30)
	refusesDay(t, 2000, 4, 31)
}

func TestCivilRefuses(t *testing.T) {
	for _, n := range none() {
		if year, month, day, e := date.Civil(n); year != 0 || month != 0 || day != 0 || e != api.ErrDate {
			t.Errorf("Civil(%d) is %d, %d, %d, %v", n, year, month, day, e)
		}
	}
}

// P4.2

func TestMonth(t *testing.T) {
	for _, x := range []struct{ n, month int }{{0, 0}, {30, 0}, {31, 1}, {59, 1}, {60, 2}, {365, 11}, {366, 12}, {14669, 481}, {api.MaxDay - 31, months - 2}, {api.MaxDay - 30, months - 1}, {api.MaxDay, months - 1}} {
		if m, e := date.Month(x.n); m != x.month || e != api.OK {
			t.Errorf("Month(%d) is %d, %v", x.n, m, e)
		}
	}
	for n, d := range all() {
		want := (d.Year()-firstYear)*12 + int(d.Month()) - 1
		if m, e := date.Month(n); m != want || e != api.OK {
			t.Fatalf("Month(%d) is %d, %v", n, m, e)
		}
	}
	for _, n := range none() {
		if m, e := date.Month(n); m != 0 || e != api.ErrDate {
			t.Errorf("Month(%d) is %d, %v", n, m, e)
		}
	}
}

func TestFirst(t *testing.T) {
	for _, x := range []struct{ month, n int }{{0, 0}, {1, 31}, {2, 60}, {12, 366}, {481, 14641}, {months - 1, api.MaxDay - 30}} {
		if n, e := date.First(x.month); n != x.n || e != api.OK {
			t.Errorf("First(%d) is %d, %v", x.month, n, e)
		}
	}
	for month := range months {
		want := number(time.Date(firstYear, time.Month(month+1), 1, 0, 0, 0, 0, time.UTC))
		if n, e := date.First(month); n != want || e != api.OK {
			t.Errorf("First(%d) is %d, %v", month, n, e)
		}
	}
	for _, month := range append(none(), months, months+1, -12, -13, -months) {
		if n, e := date.First(month); n != 0 || e != api.ErrDate {
			t.Errorf("First(%d) is %d, %v", month, n, e)
		}
	}
}

// of is the number of a day that there is.
func of(t *testing.T, year, month, day int) int {
	t.Helper()
	n, e := date.Of(year, month, day)
	if e != api.OK {
		t.Fatalf("Of(%d, %d, %d) is %v", year, month, day, e)
	}
	return n
}

func TestAddByCases(t *testing.T) {
	type day [3]int
	for _, x := range []struct {
		from   day
		months int
		to     day
	}{
		{day{1960, 1, 1}, 0, day{1960, 1, 1}},
		{day{1960, 1, 15}, 1, day{1960, 2, 15}},
		{day{1960, 1, 31}, 1, day{1960, 2, 29}},
		{day{1961, 1, 31}, 1, day{1961, 2, 28}},
		{day{1961, 1, 29}, 1, day{1961, 2, 28}},
		{day{1961, 1, 28}, 1, day{1961, 2, 28}},
		{day{1961, 1, 31}, 2, day{1961, 3, 31}},
		{day{1961, 1, 31}, 3, day{1961, 4, 30}},
		{day{1961, 2, 28}, 1, day{1961, 3, 28}}, // a month's last day need not become one
		{day{2000, 2, 29}, 12, day{2001, 2, 28}},
		{day{2000, 2, 29}, 48, day{2004, 2, 29}},
		{day{2000, 2, 29}, 1200, day{2100, 2, 28}},
		{day{2000, 2, 29}, -12, day{1999, 2, 28}},
		{day{2000, 3, 31}, -1, day{2000, 2, 29}},
		{day{2001, 3, 31}, -1, day{2001, 2, 28}},
		{day{2000, 12, 31}, 1, day{2001, 1, 31}},
		{day{2001, 1, 31}, -1, day{2000, 12, 31}},
		{day{2001, 1, 31}, -2, day{2000, 11, 30}},
		{day{2001, 1, 5}, -13, day{1999, 12, 5}},
		{day{1960, 1, 1}, months - 1, day{2199, 12, 1}},
		{day{1960, 1, 31}, months - 1, day{2199, 12, 31}},
		{day{1960, 1, 31}, months - 2, day{2199, 11, 30}},
		{day{2199, 12, 31}, 1 - months, day{1960, 1, 31}},
		{day{2199, 12, 31}, 2 - months, day{1960, 2, 29}},
		{day{2199, 12, 31}, 0, day{2199, 12, 31}},
	} {
		from, want := of(t, x.from[0], x.from[1], x.from[2]), of(t, x.to[0], x.to[1], x.to[2])
		if n, e := date.Add(from, x.months); n != want || e != api.OK {
			t.Errorf("Add(%v, %d) is %d, %v, not %v", x.from, x.months, n, e, x.to)
		}
	}
	if n, e := date.Add(14669, 12); n != 15034 || e != api.OK {
		t.Errorf("Add(14669, 12) is %d, %v", n, e)
	}
}

// added is the day so many months on, as the library has it.
func added(d time.Time, n int) (int, api.Errno) {
	first := time.Date(d.Year(), d.Month()+time.Month(n), 1, 0, 0, 0, 0, time.UTC)
	if first.Year() < firstYear || first.Year() > lastYear {
		return 0, api.ErrDate
	}
	return number(first) + min(d.Day(), length(first.Year(), int(first.Month()))) - 1, api.OK
}

func TestAddOfManyDays(t *testing.T) {
	steps := []int{0, 1, -1, 2, -2, 3, -3, 11, -11, 12, -12, 13, -13, 119, 120, -120, 300, -300, 1439, 1440, -1440, 2400, -2400, 2878, -2878, 2879, -2879, 2880, -2880, 2881, -2881, 5760, -5760}
	for n, d := range all() {
		for _, step := range append(steps, n%months, -n%months) {
			want, e := added(d, step)
			if g, f := date.Add(n, step); g != want || f != e {
				t.Fatalf("Add(%d, %d) is %d, %v, not %d, %v", n, step, g, f, want, e)
			}
		}
	}
}

func TestAddRefuses(t *testing.T) {
	for _, n := range none() {
		for _, step := range append(none(), 0, 1, 12, 2879) {
			if g, e := date.Add(n, step); g != 0 || e != api.ErrDate {
				t.Errorf("Add(%d, %d) is %d, %v", n, step, g, e)
			}
		}
	}
	for _, x := range []struct{ n, months int }{{0, -1}, {30, -1}, {31, -2}, {0, months}, {31, months - 1}, {api.MaxDay, 1}, {api.MaxDay - 30, 1}, {api.MaxDay, -months}, {api.MaxDay - 31, 2}, {14669, 2880 - 481}, {14669, -482}} {
		if g, e := date.Add(x.n, x.months); g != 0 || e != api.ErrDate {
			t.Errorf("Add(%d, %d) is %d, %v", x.n, x.months, g, e)
		}
	}
	huge := []int{math.MinInt, math.MinInt + 1, math.MinInt + months, math.MinInt32, -api.MaxDay, -months, months, api.MaxDay, math.MaxInt32, 1 << 32, 1<<62 + 1, math.MaxInt - months, math.MaxInt - 1, math.MaxInt}
	for n := 0; n <= api.MaxDay; n += 7 {
		for _, step := range huge { // so many that the sum overflows are among them
			if g, e := date.Add(n, step); g != 0 || e != api.ErrDate {
				t.Errorf("Add(%d, %d) is %d, %v", n, step, g, e)
			}
		}
	}
}

func TestWeek(t *testing.T) {
	for _, x := range []struct{ n, week int }{{0, 5}, {1, 6}, {2, 0}, {3, 1}, {4, 2}, {5, 3}, {6, 4}, {7, 5}, {14669, 2}, {api.MaxDay, 2}} {
		if w, e := date.Week(x.n); w != x.week || e != api.OK {
			t.Errorf("Week(%d) is %d, %v", x.n, w, e)
		}
	}
	for n, d := range all() {
		if w, e := date.Week(n); w != int(d.Weekday()) || e != api.OK {
			t.Fatalf("Week(%d) is %d, %v", n, w, e)
		}
	}
	for _, n := range none() {
		if w, e := date.Week(n); w != 0 || e != api.ErrDate {
			t.Errorf("Week(%d) is %d, %v", n, w, e)
		}
	}
}

// P4.3

func TestOfCivilIsTheDay(t *testing.T) {
	for n := range api.MaxDay + 1 {
		year, month, day, e := date.Civil(n)
		g, f := date.Of(year, month, day)
		if g != n || e != api.OK || f != api.OK {
			t.Fatalf("Of of Civil(%d) is %d, %v, %v", n, g, e, f)
		}
	}
}

func TestDaysFollowEachOther(t *testing.T) {
	year, month, day, _ := date.Civil(0)
	for n := 1; n <= api.MaxDay; n++ {
		wasYear, wasMonth, wasDay := year, month, day
		year, month, day, _ = date.Civil(n)
		was := (wasYear-firstYear)*12 + wasMonth
		is := (year-firstYear)*12 + month
		switch {
		case is == was && day == wasDay+1:
		case is == was+1 && day == 1 && wasDay == date.Days(wasYear, wasMonth):
		default:
			t.Fatalf("day %d is %d, %d, %d, behind %d, %d, %d", n, year, month, day, wasYear, wasMonth, wasDay)
		}
	}
}

// A month begins where First says, and lies as far as Days says.
func TestMonthsFollowEachOther(t *testing.T) {
	next := 0
	for month := range months {
		n, e := date.First(month)
		if n != next || e != api.OK {
			t.Fatalf("First(%d) is %d, %v", month, n, e)
		}
		next = n + date.Days(firstYear+month/12, month%12+1)
		for _, day := range []int{n, next - 1} {
			if m, e := date.Month(day); m != month || e != api.OK {
				t.Fatalf("Month(%d) is %d, %v", day, m, e)
			}
		}
	}
	if next != api.MaxDay+1 {
		t.Errorf("the months have %d days", next)
	}
}
