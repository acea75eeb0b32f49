package span_test

import (
	"math"
	"math/rand"
	"slices"
	"testing"

	"annuity/api"
	"annuity/span"
)

type set = []span.Span

const all = api.MaxDay + 1

// row is n stretches of a length each, a step from one's first day to the next one's.
func row(n, first, length, step int) set {
	l := make(set, n)
	for i := range l {
		l[i] = span.Span{From: first + i*step, To: first + i*step + length}
	}
	return l
}

// bad are lists that are no sets.
func bad() []set {
	return []set{
		{{0, 0}},
		{{5, 5}},
		{{5, 4}},
		{{-1, 0}},
		{{-1, 5}},
		{{-5, -2}},
		{{api.MaxDay, all + 1}},
		{{all, all}},
		{{all, all + 1}},
		{{all + 1, all + 2}},
		{{0, 5}, {5, 9}}, // they touch
		{{0, 5}, {4, 9}},
		{{0, 5}, {0, 5}},
		{{0, 9}, {3, 5}},
		{{6, 9}, {0, 5}}, // falling
		{{0, 5}, {7, 7}},
		{{0, 5}, {9, 8}},
		{{0, 0}, {7, 9}},
		{{0, 2}, {4, 6}, {6, 8}},
		{{0, 2}, {4, 6}, {1, 3}},
		{{0, 2}, {4, all + 1}},
		{{math.MinInt, 5}},
		{{math.MinInt, math.MinInt + 1}},
		{{0, math.MaxInt}},
		{{0, math.MinInt}},
		{{math.MaxInt, math.MinInt}},
		{{math.MaxInt - 1, math.MaxInt}},
		row(api.MaxSpans+1, 0, 1, 2),
		row(5000, 0, 1, 2),
		make(set, 3),
	}
}

// good are sets of all kinds.
func good() []set {
	return []set{
		nil,
		{},
		{{0, 1}},
		{{0, 5}},
		{{3, 9}},
		{{0, all}},
		{{api.MaxDay, all}},
		{{0, 5}, {6, 9}},
		{{0, 5}, {7, 9}, {all - 1, all}},
		{{1, 2}, {3, 4}, {5, 6}},
		row(api.MaxSpans, 0, 1, 2),
		row(api.MaxSpans, 1, 1, 2),
		row(api.MaxSpans, all-86*api.MaxSpans+1, 85, 86),
		row(api.MaxSpans-1, 0, 3, 5),
	}
}

// wrongDays are pairs that are no days to add or to cut.
func wrongDays() [][2]int {
	return [][2]int{{-1, 5}, {5, 5}, {5, 4}, {0, 0}, {0, -1}, {-5, -2}, {0, all + 1}, {all, all}, {all, all + 1}, {math.MinInt, 5}, {math.MinInt, math.MaxInt}, {0, math.MaxInt}, {0, math.MinInt}, {math.MaxInt, math.MinInt}, {math.MaxInt, math.MaxInt}, {math.MaxInt - 1, math.MaxInt}, {-1, all}}
}

// marks tells of each day whether it is in a set, one stretch behind the other.
func marks(s set) []bool {
	m := make([]bool, all)
	for _, x := range s {
		for d := x.From; d < x.To; d++ {
			m[d] = true
		}
	}
	return m
}

// gathered is the set of the days that are marked.
func gathered(m []bool) set {
	var l set
	for d, in := range m {
		switch {
		case in && (d == 0 || !m[d-1]):
			l = append(l, span.Span{From: d, To: d + 1})
		case in:
			l[len(l)-1].To++
		}
	}
	return l
}

// few is what is told of a set that may have too many stretches.
func few(s set) (set, api.Errno) {
	if len(s) > api.MaxSpans {
		return nil, api.ErrMany
	}
	return s, api.OK
}

// P6.1

func TestGoodByCases(t *testing.T) {
	for i, s := range good() {
		if !span.Good(s) {
			t.Errorf("good()[%d] is not Good", i)
		}
	}
	for i, s := range bad() {
		if span.Good(s) {
			t.Errorf("bad()[%d] is Good", i)
		}
	}
}

func TestGoodOfAllSmallPairs(t *testing.T) {
	for n := range 7 * 7 * 7 * 7 {
		a, b, c, d := n%7-1, n/7%7-1, n/49%7-1, n/343-1
		want := a >= 0 && a < b && b < c && c < d
		if got := span.Good(set{{a, b}, {c, d}}); got != want {
			t.Fatalf("Good([%d, %d), [%d, %d)) is %v", a, b, c, d, got)
		}
	}
}

func TestHasByCases(t *testing.T) {
	s := set{{0, 5}, {7, 8}, {10, 20}, {api.MaxDay, all}}
	for _, x := range []struct {
		day  int
		want bool
	}{{-1, false}, {0, true}, {1, true}, {4, true}, {5, false}, {6, false}, {7, true}, {8, false}, {9, false}, {10, true}, {19, true}, {20, false}, {api.MaxDay - 1, false}, {api.MaxDay, true}, {all, false}, {math.MinInt, false}, {math.MaxInt, false}} {
		if got := span.Has(s, x.day); got != x.want {
			t.Errorf("Has(.., %d) is %v", x.day, got)
		}
	}
	if span.Has(nil, 0) || span.Has(set{}, 5) {
		t.Error("a day is in no stretches")
	}
}

func TestHasAndDaysOfAllSets(t *testing.T) {
	for i, s := range good() {
		n := 0
		m := marks(s)
		for d, in := range m {
			if in {
				n++
			}
			// Of many stretches not each day is asked, as that takes long.
			if len(s) > 9 && d%97 > 1 {
				continue
			}
			if got := span.Has(s, d); got != in {
				t.Fatalf("Has(good()[%d], %d) is %v", i, d, got)
			}
		}
		if got := span.Days(s); got != n {
			t.Errorf("Days(good()[%d]) is %d, not %d", i, got, n)
		}
	}
}

func TestDaysByCases(t *testing.T) {
	for _, x := range []struct {
		s    set
		want int
	}{{nil, 0}, {set{}, 0}, {set{{0, 1}}, 1}, {set{{0, 5}, {7, 9}}, 7}, {set{{0, all}}, 87659}, {row(api.MaxSpans, 0, 1, 2), 1000}} {
		if n := span.Days(x.s); n != x.want {
			t.Errorf("Days(%v) is %d", x.s, n)
		}
	}
}

func TestHasAndDaysOfNoSet(t *testing.T) {
	for i, s := range bad() {
		if n := span.Days(s); n != 0 {
			t.Errorf("Days(bad()[%d]) is %d", i, n)
		}
		for _, d := range []int{-3, -1, 0, 1, 2, 3, 4, 5, 6, 7, 8, api.MaxDay, all, math.MinInt, math.MaxInt - 1} {
			if span.Has(s, d) {
				t.Errorf("Has(bad()[%d], %d)", i, d)
			}
		}
	}
}

// P6.2

func TestAddByCases(t *testing.T) {
	for _, x := range []struct {
		s        set
		from, to int
		want     set
	}{
		{set{{0, 5}}, 5, 9, set{{0, 9}}},
		{nil, 5, 9, set{{5, 9}}},
		{nil, 0, all, set{{0, all}}},
		{nil, api.MaxDay, all, set{{api.MaxDay, all}}},
		{set{{5, 9}}, 0, 5, set{{0, 9}}},
		{set{{5, 9}}, 0, 4, set{{0, 4}, {5, 9}}},
		{set{{5, 9}}, 10, 11, set{{5, 9}, {10, 11}}},
		{set{{5, 9}}, 6, 7, set{{5, 9}}},
		{set{{5, 9}}, 5, 9, set{{5, 9}}},
		{set{{5, 9}}, 4, 10, set{{4, 10}}},
		{set{{0, 5}, {6, 9}}, 5, 6, set{{0, 9}}},
		{set{{0, 5}, {7, 9}}, 5, 6, set{{0, 6}, {7, 9}}},
		{set{{0, 5}, {7, 9}}, 6, 7, set{{0, 5}, {6, 9}}},
		{set{{0, 5}, {8, 9}}, 6, 7, set{{0, 5}, {6, 7}, {8, 9}}},
		{set{{1, 2}, {4, 5}, {7, 8}}, 0, all, set{{0, all}}},
		{set{{1, 2}, {4, 5}, {7, 8}}, 2, 7, set{{1, 8}}},
		{set{{1, 2}, {4, 5}, {7, 8}}, 3, 6, set{{1, 2}, {3, 6}, {7, 8}}},
	} {
		if got, e := span.Add(x.s, x.from, x.to); e != api.OK || !slices.Equal(got, x.want) {
			t.Errorf("Add(%v, %d, %d) is %v, %v", x.s, x.from, x.to, got, e)
		}
	}
}

func TestCutByCases(t *testing.T) {
	for _, x := range []struct {
		s        set
		from, to int
		want     set
	}{
		{nil, 5, 9, nil},
		{set{{0, 5}}, 5, 9, set{{0, 5}}},
		{set{{0, 5}}, 4, 9, set{{0, 4}}},
		{set{{0, 5}}, 0, 5, nil},
		{set{{0, 5}}, 0, all, nil},
		{set{{0, 5}}, 0, 1, set{{1, 5}}},
		{set{{0, 5}}, 2, 3, set{{0, 2}, {3, 5}}},
		{set{{5, 9}}, 0, 5, set{{5, 9}}},
		{set{{5, 9}}, 0, 6, set{{6, 9}}},
		{set{{5, 9}}, 9, 10, set{{5, 9}}},
		{set{{0, all}}, api.MaxDay, all, set{{0, api.MaxDay}}},
		{set{{0, 5}, {7, 9}}, 5, 7, set{{0, 5}, {7, 9}}},
		{set{{0, 5}, {7, 9}}, 6, 7, set{{0, 5}, {7, 9}}},
		{set{{0, 5}, {7, 9}}, 4, 8, set{{0, 4}, {8, 9}}},
		{set{{0, 5}, {7, 9}, {11, 13}}, 7, 9, set{{0, 5}, {11, 13}}},
		{set{{0, 5}, {7, 9}, {11, 13}}, 3, 12, set{{0, 3}, {12, 13}}},
		{set{{0, 5}, {7, 9}, {11, 13}}, 0, 11, set{{11, 13}}},
		{set{{0, 5}, {7, 9}, {11, 13}}, 5, 13, set{{0, 5}}},
	} {
		if got, e := span.Cut(x.s, x.from, x.to); e != api.OK || !slices.Equal(got, x.want) {
			t.Errorf("Cut(%v, %d, %d) is %v, %v", x.s, x.from, x.to, got, e)
		}
	}
}

func TestBothByCases(t *testing.T) {
	for _, x := range []struct{ a, b, want set }{
		{nil, nil, nil},
		{set{{0, 5}}, nil, nil},
		{set{{0, 5}}, set{{5, 9}}, nil},
		{set{{0, 5}}, set{{4, 9}}, set{{4, 5}}},
		{set{{0, 5}}, set{{0, 5}}, set{{0, 5}}},
		{set{{0, all}}, set{{3, 4}, {api.MaxDay, all}}, set{{3, 4}, {api.MaxDay, all}}},
		{set{{0, 9}}, set{{2, 3}, {4, 5}}, set{{2, 3}, {4, 5}}},
		{set{{0, 5}, {6, 9}}, set{{4, 7}}, set{{4, 5}, {6, 7}}},
		{set{{0, 5}, {6, 9}}, set{{5, 6}}, nil},
		{set{{0, 5}, {6, 9}}, set{{0, 5}, {7, 12}}, set{{0, 5}, {7, 9}}},
		{set{{1, 3}, {5, 7}, {9, 11}}, set{{2, 6}, {10, 20}}, set{{2, 3}, {5, 6}, {10, 11}}},
	} {
		if got, e := span.Both(x.a, x.b); e != api.OK || !slices.Equal(got, x.want) {
			t.Errorf("Both(%v, %v) is %v, %v", x.a, x.b, got, e)
		}
		if got, e := span.Both(x.b, x.a); e != api.OK || !slices.Equal(got, x.want) {
			t.Errorf("Both(%v, %v) is %v, %v", x.b, x.a, got, e)
		}
	}
}

func TestErrForm(t *testing.T) {
	ask := func(i int, name string, l set, e api.Errno) {
		if len(l) != 0 || e != api.ErrForm {
			t.Errorf("%s of bad()[%d] is %v, %v", name, i, l, e)
		}
	}
	for i, s := range bad() {
		// ErrForm stands ahead of ErrArg.
		for _, x := range append(wrongDays(), [2]int{0, 1}, [2]int{0, all}) {
			l, e := span.Add(s, x[0], x[1])
			ask(i, "Add", l, e)
			l, e = span.Cut(s, x[0], x[1])
			ask(i, "Cut", l, e)
		}
		for _, b := range append(bad(), good()...) {
			l, e := span.Both(s, b)
			ask(i, "Both, the first", l, e)
			l, e = span.Both(b, s)
			ask(i, "Both, the second", l, e)
		}
	}
}

func TestErrArg(t *testing.T) {
	for i, s := range good() {
		for _, x := range wrongDays() {
			if l, e := span.Add(s, x[0], x[1]); len(l) != 0 || e != api.ErrArg {
				t.Errorf("Add(good()[%d], %d, %d) is %v, %v", i, x[0], x[1], l, e)
			}
			if l, e := span.Cut(s, x[0], x[1]); len(l) != 0 || e != api.ErrArg {
				t.Errorf("Cut(good()[%d], %d, %d) is %v, %v", i, x[0], x[1], l, e)
			}
		}
	}
}

func TestErrMany(t *testing.T) {
	full := row(api.MaxSpans, 0, 3, 10)
	last := full[api.MaxSpans-1]
	for _, x := range []struct {
		name     string
		ask      func(set, int, int) (set, api.Errno)
		s        set
		from, to int
		n        int
		e        api.Errno
	}{
		{"Add of one more", span.Add, full, 5, 6, 0, api.ErrMany},
		{"Add behind all", span.Add, full, last.To + 1, last.To + 2, 0, api.ErrMany},
		{"Add just behind the last", span.Add, full, last.To, last.To + 1, api.MaxSpans, api.OK},
		{"Add that is there", span.Add, full, 0, 3, api.MaxSpans, api.OK},
		{"Add that joins two", span.Add, full, 3, 10, api.MaxSpans - 1, api.OK},
		{"Add to one fewer", span.Add, full[1:], 5, 6, api.MaxSpans, api.OK},
		{"Cut in the middle", span.Cut, full, 1, 2, 0, api.ErrMany},
		{"Cut in the middle of the last", span.Cut, full, last.From + 1, last.To - 1, 0, api.ErrMany},
		{"Cut at the edge", span.Cut, full, 0, 1, api.MaxSpans, api.OK},
		{"Cut of nothing", span.Cut, full, 3, 10, api.MaxSpans, api.OK},
		{"Cut of one and of some", span.Cut, full, 1, 12, api.MaxSpans, api.OK},
		{"Cut of one fewer", span.Cut, full[1:], 11, 12, api.MaxSpans, api.OK},
	} {
		if l, e := x.ask(x.s, x.from, x.to); len(l) != x.n || e != x.e {
			t.Errorf("%s: %d stretches, %v", x.name, len(l), e)
		}
	}
}

func TestBothErrMany(t *testing.T) {
	// Each of a but the last meets the ends of two of b.
	a, b := row(api.MaxSpans, 0, 9, 10), row(api.MaxSpans, 5, 9, 10)
	if l, e := span.Both(a, b); len(l) != 0 || e != api.ErrMany {
		t.Errorf("%d stretches, %v", len(l), e)
	}
	if l, e := span.Both(a[:500], b[:500]); len(l) != 999 || e != api.OK {
		t.Errorf("%d stretches, %v", len(l), e)
	}
	if l, e := span.Both(a[:501], b[:500]); len(l) != 1000 || e != api.OK {
		t.Errorf("%d stretches, %v", len(l), e)
	}
	if l, e := span.Both(a[:501], b[:501]); len(l) != 0 || e != api.ErrMany {
		t.Errorf("%d stretches, %v", len(l), e)
	}
	if l, e := span.Both(a, set{{0, all}}); !slices.Equal(l, a) || e != api.OK {
		t.Errorf("%d stretches, %v", len(l), e)
	}
}

// P6.3

// smallSets are all sets of the days below n.
func smallSets(n int) []set {
	var l []set
	for bits := range 1 << n {
		m := make([]bool, n)
		for d := range m {
			m[d] = bits>>d&1 == 1
		}
		l = append(l, gathered(m))
	}
	return l
}

func TestAllSmallSets(t *testing.T) {
	const n = 8
	for _, s := range smallSets(n) {
		for from := range n {
			for to := from + 1; to <= n; to++ {
				with, without := marks(s)[:n], marks(s)[:n]
				for d := from; d < to; d++ {
					with[d], without[d] = true, false
				}
				if l, e := span.Add(s, from, to); e != api.OK || !slices.Equal(l, gathered(with)) {
					t.Fatalf("Add(%v, %d, %d) is %v, %v", s, from, to, l, e)
				}
				if l, e := span.Cut(s, from, to); e != api.OK || !slices.Equal(l, gathered(without)) {
					t.Fatalf("Cut(%v, %d, %d) is %v, %v", s, from, to, l, e)
				}
			}
		}
	}
}

func TestBothOfAllSmallSets(t *testing.T) {
	const n = 7
	sets := smallSets(n)
	for i, a := range sets {
		for j, b := range sets {
			// The place of a set holds its days as bits.
			if l, e := span.Both(a, b); e != api.OK || !slices.Equal(l, sets[i&j]) {
				t.Fatalf("Both(%v, %v) is %v, %v", a, b, l, e)
			}
		}
	}
}

func TestLongScripts(t *testing.T) {
	for _, widest := range []int{3, 40, 4000} {
		r := rand.New(rand.NewSource(int64(widest)))
		var s set
		m := marks(nil)
		for range 2500 {
			from := r.Intn(all)
			if widest == 3 {
				from /= 30 // so dense that there may be too many
			}
			to := min(from+1+r.Intn(widest), all)
			ask, put := span.Add, true
			if r.Intn(4) == 0 {
				ask, put = span.Cut, false
			}
			before := slices.Clone(m[from:to])
			for d := from; d < to; d++ {
				m[d] = put
			}
			want, wantE := few(gathered(m))
			got, e := ask(s, from, to)
			if e != wantE || !slices.Equal(got, want) {
				t.Fatalf("[%d, %d), %v: %v", from, to, put, e)
			}
			if e != api.OK {
				copy(m[from:to], before)
				continue
			}
			s = got
			if !span.Good(s) {
				t.Fatal("the set is none any more")
			}
		}
	}
}

func TestBothOfLongSets(t *testing.T) {
	r := rand.New(rand.NewSource(6))
	for range 40 {
		var l [2]set
		for i := range l {
			for range 1 + r.Intn(600) {
				from := r.Intn(all)
				l[i], _ = span.Add(l[i], from, min(all, from+1+r.Intn(300)))
			}
		}
		a, b := marks(l[0]), marks(l[1])
		for d := range a {
			a[d] = a[d] && b[d]
		}
		want, wantE := few(gathered(a))
		if got, e := span.Both(l[0], l[1]); e != wantE || !slices.Equal(got, want) {
			t.Fatalf("Both is %v, %v", got, e)
		}
	}
}

func TestOrderDoesNotMatter(t *testing.T) {
	r := rand.New(rand.NewSource(63))
	parts := set{{0, 3}, {3, 4}, {2, 9}, {11, 12}, {13, 14}, {12, 13}, {20, 25}, {22, 23}, {all - 1, all}, {all - 3, all - 1}}
	want := set{{0, 9}, {11, 14}, {20, 25}, {all - 3, all}}
	for range 300 {
		var s set
		for _, i := range r.Perm(len(parts)) {
			s, _ = span.Add(s, parts[i].From, parts[i].To)
		}
		if !slices.Equal(s, want) {
			t.Fatalf("the set is %v", s)
		}
	}
	for range 300 {
		s := set{{0, all}}
		for _, i := range r.Perm(len(parts)) {
			s, _ = span.Cut(s, parts[i].From, parts[i].To)
		}
		if !slices.Equal(s, set{{9, 11}, {14, 20}, {25, all - 3}}) {
			t.Fatalf("the set is %v", s)
		}
	}
}

// Rules 2 and 4: arguments stay as they are, answers share no memory.

// padded is a set with spare room that is filled by stretches that belong to nobody.
func padded(s set) (whole, part set) {
	whole = slices.Concat(s, set{{-7, -7}, {-7, -7}, {-7, -7}})
	return whole, whole[:len(s)]
}

func TestNewMemory(t *testing.T) {
	b := set{{0, all}}
	calls := map[string]func(set) (set, api.Errno){
		"Add ahead":      func(s set) (set, api.Errno) { return span.Add(s, 0, 1) },
		"Add within":     func(s set) (set, api.Errno) { return span.Add(s, 11, 12) },
		"Add behind":     func(s set) (set, api.Errno) { return span.Add(s, 90, 99) },
		"Add over all":   func(s set) (set, api.Errno) { return span.Add(s, 0, all) },
		"Cut ahead":      func(s set) (set, api.Errno) { return span.Cut(s, 0, 1) },
		"Cut within":     func(s set) (set, api.Errno) { return span.Cut(s, 11, 12) },
		"Cut of one":     func(s set) (set, api.Errno) { return span.Cut(s, 10, 15) },
		"Cut of the end": func(s set) (set, api.Errno) { return span.Cut(s, 50, 60) },
		"Cut behind":     func(s set) (set, api.Errno) { return span.Cut(s, 90, 99) },
		"Cut of all":     func(s set) (set, api.Errno) { return span.Cut(s, 0, all) },
		"Both":           func(s set) (set, api.Errno) { return span.Both(s, b) },
		"Both turned":    func(s set) (set, api.Errno) { return span.Both(b, s) },
		"Both the same":  func(s set) (set, api.Errno) { return span.Both(s, s) },
	}
	for name, call := range calls {
		for _, s := range []set{nil, {{10, 15}}, {{50, 60}}, {{10, 15}, {20, 30}, {50, 60}}} {
			whole, part := padded(s)
			was := slices.Clone(whole)
			first, _ := call(part)
			second, _ := call(part)
			told := slices.Clone(second)
			first = first[:cap(first)]
			for i := range first {
				first[i] = span.Span{From: 77, To: 78}
			}
			if !slices.Equal(whole, was) {
				t.Errorf("%s of %v wrote what was handed in, or tells it itself", name, s)
			}
			if !slices.Equal(second, told) || b[0] != (span.Span{From: 0, To: all}) {
				t.Errorf("%s of %v: two answers share memory", name, s)
			}
		}
	}
}
