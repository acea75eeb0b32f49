package share_test

import (
	"math"
	"math/big"
	"slices"
	"testing"

	"annuity/api"
	"annuity/share"
)

const most = api.MaxMoney

// many is a list of n times a.
func many(n int, a int64) []int64 { return slices.Repeat([]int64{a}, n) }

// walled is a piece of a list, and the whole of it, that has other numbers ahead of the piece and in its spare room.
func walled(l []int64) (piece, whole []int64) {
	whole = slices.Concat([]int64{-1, -2}, l, []int64{-3, -4, -5})
	return whole[2 : 2+len(l)], whole
}

// numbers is a list of n numbers from 0 to top, unlike for unlike seeds.
func numbers(n int, seed, top uint64) []int64 {
	l := make([]int64, n)
	for i := range l {
		seed = seed*6364136223846793005 + 1442695040888963407
		l[i] = int64(seed >> 11 % (top + 1))
	}
	return l
}

// shared is what Split shall tell of what it takes: in numbers of any length, and cent by cent.
func shared(total int64, weights []int64) []int64 {
	sum := new(big.Int)
	for _, w := range weights {
		sum.Add(sum, big.NewInt(w))
	}
	parts := make([]int64, len(weights))
	rests := make([]*big.Int, len(weights))
	left := total
	for i, w := range weights {
		q, r := new(big.Int).QuoRem(new(big.Int).Mul(big.NewInt(total), big.NewInt(w)), sum, new(big.Int))
		parts[i], rests[i] = q.Int64(), r
		left -= parts[i]
	}
	for ; left > 0; left-- {
		best := 0
		for i, r := range rests {
			if r.Cmp(rests[best]) > 0 {
				best = i
			}
		}
		parts[best]++
		rests[best] = big.NewInt(-1) // one each
	}
	return parts
}

// lists are weights that Split takes: all short ones, and some of great and of many numbers.
func lists() [][]int64 {
	var l [][]int64
	for a := range int64(6) {
		for b := range int64(6) {
			for c := range int64(6) {
				for d := range int64(3) {
					if a+b+c+d > 0 {
						l = append(l, []int64{a, b, c, d})
					}
				}
			}
		}
	}
	l = append(l, []int64{1}, []int64{most}, []int64{most - 1, 1}, []int64{1, most - 1}, []int64{most / 2, most / 2},
		[]int64{most/3 + 1, most / 3, most / 3}, []int64{0, most, 0}, many(1000, 1), many(1000, most/1000), append(many(999, 0), 1))
	for seed := range uint64(12) {
		l = append(l, numbers(7, seed+1, most/7), numbers(1000, seed+1, 3), numbers(1000, seed+1, most/1000))
	}
	return l
}

func totals() []int64 {
	return []int64{0, 1, 2, 3, 5, 7, 10, 11, 97, 999, 1000, 1001, 123456789012, most/2 + 1, most - 1, most}
}

// P2.1

func TestSplitByCases(t *testing.T) {
	for _, x := range []struct {
		total   int64
		weights []int64
		parts   []int64
	}{
		{10, []int64{1, 1, 1}, []int64{4, 3, 3}},
		{11, []int64{1, 1, 1}, []int64{4, 4, 3}},
		{12, []int64{1, 1, 1}, []int64{4, 4, 4}},
		{0, []int64{1, 2}, []int64{0, 0}},
		{7, []int64{5}, []int64{7}},
		{1, []int64{1, 1}, []int64{1, 0}},       // of as great rests the first
		{1, []int64{1, 2}, []int64{0, 1}},       // the greater rest, not the first
		{2, []int64{2, 3, 3}, []int64{0, 1, 1}}, // rests of 4, 6, 6 by 8
		{5, []int64{1, 2, 1}, []int64{1, 3, 1}}, // rests of 1, 2, 1 by 4
		{4, []int64{5, 1, 1}, []int64{3, 1, 0}}, // rests of 6, 4, 4 by 7
		{3, []int64{5, 2, 2}, []int64{2, 1, 0}}, // rests of 6, 6, 6 by 9: one cent each, and the first ones
		{100, []int64{0, 3, 0}, []int64{0, 100, 0}},
		{2, []int64{0, 1, 1, 1, 0}, []int64{0, 1, 1, 0, 0}},
		{most, []int64{most}, []int64{most}},
		{most, []int64{most - 1, 1}, []int64{most - 1, 1}},
		{most - 1, []int64{most / 2, most / 2}, []int64{most / 2, most/2 - 1}},
		{most, []int64{1, 1, 1}, []int64{most/3 + 1, most / 3, most / 3}},
		{1, []int64{0, most}, []int64{0, 1}},
	} {
		if l, e := share.Split(x.total, x.weights); !slices.Equal(l, x.parts) || e != api.OK {
			t.Errorf("Split(%d, %v) is %v, %v", x.total, x.weights, l, e)
		}
	}
}

func TestSplitOfManyWeights(t *testing.T) {
	for _, weights := range lists() {
		for _, total := range totals() {
			if l, e := share.Split(total, weights); e != api.OK || !slices.Equal(l, shared(total, weights)) {
				t.Fatalf("Split(%d, %v) is %v, %v", total, weights, l, e)
			}
		}
	}
}

func TestSplitRefuses(t *testing.T) {
	for _, x := range []struct {
		total   int64
		weights []int64
	}{
		{5, nil},
		{5, []int64{}},
		{0, nil},
		{5, []int64{0}},
		{0, []int64{0, 0}},
		{5, many(1001, 1)},
		{5, append([]int64{1}, many(1000, 0)...)},
		{-1, []int64{1}},
		{most + 1, []int64{1}},
		{math.MinInt64, []int64{1}},
		{math.MaxInt64, []int64{1}},
		{5, []int64{-1}},
		{5, []int64{2, -1}},
		{5, []int64{-1, 2}},
		{5, []int64{most + 1}},
		{5, []int64{0, most + 1, 0}},
		{5, []int64{most, 1}},
		{5, []int64{most - 1, 1, 1}},
		{5, many(1000, most)},
		{5, []int64{math.MaxInt64, math.MaxInt64, 3}}, // together 1, where they wrap round
		{5, []int64{math.MinInt64, math.MinInt64, 1}},
		{5, []int64{math.MinInt64}},
	} {
		if l, e := share.Split(x.total, x.weights); len(l) != 0 || e != api.ErrArg {
			t.Errorf("Split(%d, %v) is %v, %v", x.total, x.weights, l, e)
		}
	}
}

// P2.2

func TestFillByCases(t *testing.T) {
	for _, x := range []struct {
		total int64
		rooms []int64
		parts []int64
		rest  int64
	}{
		{5, []int64{3, 9}, []int64{3, 2}, 0},
		{5, []int64{9, 3}, []int64{5, 0}, 0},
		{5, []int64{1, 2, 1}, []int64{1, 2, 1}, 1},
		{5, []int64{2, 3}, []int64{2, 3}, 0},
		{5, []int64{0, 4, 0, 4, 4}, []int64{0, 4, 0, 1, 0}, 0},
		{5, []int64{0, 0}, []int64{0, 0}, 5},
		{0, []int64{3, 9}, []int64{0, 0}, 0},
		{0, nil, nil, 0},
		{5, nil, nil, 5},
		{5, []int64{}, nil, 5},
		{most, nil, nil, most},
		{most, []int64{most}, []int64{most}, 0},
		{most, []int64{most - 1}, []int64{most - 1}, 1},
		{most, []int64{most, most, most}, []int64{most, 0, 0}, 0}, // the rooms together need not be money
		{most, []int64{1, most, most}, []int64{1, most - 1, 0}, 0},
	} {
		if l, rest, e := share.Fill(x.total, x.rooms); !slices.Equal(l, x.parts) || rest != x.rest || e != api.OK {
			t.Errorf("Fill(%d, %v) is %v, %d, %v", x.total, x.rooms, l, rest, e)
		}
	}
}

func TestFillOfManyRooms(t *testing.T) {
	if l, rest, e := share.Fill(1003, many(1000, 1)); !slices.Equal(l, many(1000, 1)) || rest != 3 || e != api.OK {
		t.Errorf("Fill of 1000 rooms is %v, %d, %v", l, rest, e)
	}
	want := append(append(many(500, 2), 1), many(499, 0)...)
	if l, rest, e := share.Fill(1001, many(1000, 2)); !slices.Equal(l, want) || rest != 0 || e != api.OK {
		t.Errorf("Fill of 1000 rooms is %v, %d, %v", l, rest, e)
	}
}

func TestFillRefuses(t *testing.T) {
	for _, x := range []struct {
		total int64
		rooms []int64
	}{
		{-1, nil},
		{most + 1, nil},
		{math.MinInt64, []int64{1}},
		{math.MaxInt64, []int64{1}},
		{5, []int64{-1}},
		{5, []int64{7, -1}}, // behind all that is filled, too
		{0, []int64{-1}},
		{5, []int64{most + 1}},
		{5, []int64{7, most + 1}},
		{5, []int64{math.MaxInt64}},
		{5, []int64{math.MinInt64}},
		{5, many(1001, 1)},
		{0, many(1001, 0)},
	} {
		if l, rest, e := share.Fill(x.total, x.rooms); len(l) != 0 || rest != 0 || e != api.ErrArg {
			t.Errorf("Fill(%d, %v) is %v, %d, %v", x.total, x.rooms, l, rest, e)
		}
	}
}

// P2.3

// splitHolds asks of what Split tells what follows of it.
func splitHolds(t *testing.T, total int64, weights []int64) {
	parts, e := share.Split(total, weights)
	if e != api.OK || len(parts) != len(weights) {
		t.Fatalf("Split(%d, %v) is %v, %v", total, weights, parts, e)
	}
	all, sum := int64(0), int64(0)
	for i := range parts {
		all += parts[i]
		sum += weights[i]
	}
	if all != total {
		t.Fatalf("Split(%d, %v) is %v: together %d", total, weights, parts, all)
	}
	for i, p := range parts {
		q, r := new(big.Int).QuoRem(new(big.Int).Mul(big.NewInt(total), big.NewInt(weights[i])), big.NewInt(sum), new(big.Int))
		down := q.Int64()
		if p != down && (p != down+1 || r.Sign() == 0) || weights[i] == 0 && p != 0 {
			t.Fatalf("Split(%d, %v) is %v: at %d", total, weights, parts, i)
		}
	}
	heavierGetsNoLess(t, weights, parts)
}

func heavierGetsNoLess(t *testing.T, weights, parts []int64) {
	for i, p := range parts {
		for k, q := range parts {
			if weights[i] > weights[k] && p < q {
				t.Fatalf("of weights %v parts %v: at %d, %d", weights, parts, i, k)
			}
		}
	}
}

func TestWhatFollowsOfSplit(t *testing.T) {
	for _, weights := range lists() {
		for _, total := range totals() {
			splitHolds(t, total, weights)
		}
	}
}

func TestWhatFollowsOfFill(t *testing.T) {
	for _, rooms := range lists() {
		for _, total := range totals() {
			parts, rest, e := share.Fill(total, rooms)
			if e != api.OK || len(parts) != len(rooms) || rest < 0 {
				t.Fatalf("Fill(%d, %v) is %v, %d, %v", total, rooms, parts, rest, e)
			}
			all, full := rest, true
			for i, p := range parts {
				all += p
				// Behind a room that is not full nothing is left.
				if p < 0 || p > rooms[i] || !full && p > 0 {
					t.Fatalf("Fill(%d, %v) is %v, %d: at %d", total, rooms, parts, rest, i)
				}
				full = full && p == rooms[i]
			}
			if all != total || !full && rest > 0 {
				t.Fatalf("Fill(%d, %v) is %v, %d", total, rooms, parts, rest)
			}
		}
	}
}

// What is handed in is not changed, its spare room included, and what is told shares none of it.
func TestListsAreNotShared(t *testing.T) {
	for _, l := range [][]int64{nil, {3}, {0, 2, 5, 2}, {1, -1}, {most, 1}, numbers(1000, 9, 99), many(1001, 1)} {
		piece, whole := walled(l)
		was := slices.Clone(whole)
		a, _ := share.Split(11, piece)
		b, _ := share.Split(11, piece)
		c, _, _ := share.Fill(11, piece)
		d, _, _ := share.Fill(11, piece)
		if !slices.Equal(was, whole) {
			t.Errorf("%v became %v", was, whole)
		}
		for i, told := range [][]int64{a, b, c, d} {
			told = told[:cap(told)]
			for k := range told {
				told[k] = int64(1000 * (i + 1))
			}
		}
		if !slices.Equal(was, whole) {
			t.Errorf("what was told of %v shares its memory", was)
		}
		for i, told := range [][]int64{a, b, c, d} {
			if told = told[:cap(told)]; slices.Max(append(told, 0)) > int64(1000*(i+1)) {
				t.Errorf("two answers of %v share their memory", was)
			}
		}
	}
}

// An answer hangs on the arguments alone.
func TestTheSameIsToldAgain(t *testing.T) {
	for _, weights := range lists() {
		a, _ := share.Split(1001, weights)
		share.Split(-1, weights)
		share.Fill(5, weights)
		b, e := share.Split(1001, slices.Clone(weights))
		if !slices.Equal(a, b) || e != api.OK {
			t.Fatalf("Split(1001, %v) is %v, then %v", weights, a, b)
		}
	}
}
