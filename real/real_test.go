package real_test

import (
	"math"
	"math/big"
	"testing"

	"annuity/api"
	"annuity/real"
)

const (
	most  = api.MaxMoney
	tiny  = math.SmallestNonzeroFloat64
	least = 0x1p-1022 // the least one that is written in full
)

var (
	endless = math.Inf(1)
	minus0  = math.Copysign(0, -1)
)

// bad are those that are no number, or endless, or below 0.
func bad() []float64 {
	return []float64{
		math.NaN(), math.Copysign(math.NaN(), -1), math.Float64frombits(0x7ff0000000000001), math.Float64frombits(0xffffffffffffffff),
		endless, math.Inf(-1), -tiny, -least, -0.005, -1, -most, -math.MaxFloat64,
	}
}

// around is f and the float64s next to it that are not below 0.
func around(f float64) []float64 {
	l := []float64{f, math.Nextafter(f, endless)}
	if f > 0 {
		l = append(l, math.Nextafter(f, 0))
	}
	return l
}

// good are numbers around all bounds that the chapter names, and many between them.
func good() []float64 {
	l := []float64{0, minus0, math.MaxFloat64, math.Nextafter(math.MaxFloat64, 0)}
	for _, f := range []float64{
		tiny, least, 1e-300, 5e-7, 0.00005, 0.005, 0.125, 0.25, 0.5, 0.75, 1, 1.005, 1.5, 2, 2.5, 3.14159, 100, 100.00005, 12345.678,
		most / 1e6, most / 1e4, most / 100, most / 3, most - 0.5, most, most + 0.5, most + 1, most / 100 * 1.00000000000001,
		1 << 31, 1 << 32, 1 << 43, 1 << 51, 1<<51 + 0.5, 1 << 52, 1 << 53, 1 << 62, 1 << 63, 1 << 64, 1e19, 1e22, 1e300,
	} {
		l = append(l, around(f)...)
	}
	return l
}

func scales() []int64 {
	return []int64{1, 2, 3, 7, 10, 99, 100, 101, 1000, 1 << 10, 4095, 10000, 65536, 99999, 524288, 999999, 1000000}
}

// words are n numbers of 64 bits, unlike for unlike seeds.
func words(n int, seed uint64) []uint64 {
	l := make([]uint64, n)
	for i := range l {
		seed = seed*6364136223846793005 + 1442695040888963407
		l[i] = seed ^ seed>>29
	}
	return l
}

// taken is what a good f times scale is, in numbers of any length.
func taken(f float64, scale int64) (int64, api.Errno) {
	product := new(big.Rat).SetFloat64(f)
	product.Mul(product, new(big.Rat).SetInt64(scale))
	n, rest := new(big.Int).QuoRem(product.Num(), product.Denom(), new(big.Int))
	half := rest.Lsh(rest, 1).Cmp(product.Denom())
	if half > 0 || half == 0 && n.Bit(0) == 1 {
		n.Add(n, big.NewInt(1))
	}
	if n.Cmp(big.NewInt(most)) > 0 {
		return 0, api.ErrRange
	}
	return n.Int64(), api.OK
}

func takes(t *testing.T, f float64, scale int64) {
	t.Helper()
	want, e := taken(f, scale)
	if n, g := real.Take(f, scale); n != want || g != e {
		t.Fatalf("Take(%v, %d) is %d, %v, not %d, %v", f, scale, n, g, want, e)
	}
}

// P3.1

func TestGood(t *testing.T) {
	for _, f := range good() {
		if !real.Good(f) {
			t.Errorf("Good(%v) is false", f)
		}
	}
	for _, f := range bad() {
		if real.Good(f) {
			t.Errorf("Good(%v) is true", f)
		}
	}
}

func TestTakeByCases(t *testing.T) {
	for _, x := range []struct {
		f     float64
		scale int64
		n     int64
		e     api.Errno
	}{
		{0, 1, 0, api.OK},
		{minus0, 1, 0, api.OK},
		{minus0, 1000000, 0, api.OK},
		{7, 1, 7, api.OK},
		{1.25, 4, 5, api.OK},
		{0.1, 10, 1, api.OK},
		// halves, and what is next to them
		{0.5, 1, 0, api.OK},
		{1.5, 1, 2, api.OK},
		{2.5, 1, 2, api.OK},
		{3.5, 1, 4, api.OK},
		{math.Nextafter(0.5, 1), 1, 1, api.OK},
		{math.Nextafter(0.5, 0), 1, 0, api.OK},
		{math.Nextafter(1.5, 0), 1, 1, api.OK},
		{math.Nextafter(2.5, 3), 1, 3, api.OK},
		// products that a float64 would have as a half, and are a little more or less
		{0.005, 100, 1, api.OK},
		{0.025, 100, 3, api.OK},
		{0.015, 100, 1, api.OK},
		{tiny, 1000000, 0, api.OK},
		{5e-7, 1000000, 0, api.OK}, // less than 5 tenths of a millionth
		{math.Nextafter(5e-7, 1), 1000000, 1, api.OK},
		// the greatest money
		{most, 1, most, api.OK},
		{most + 0.5, 1, most, api.OK},
		{math.Nextafter(most+0.5, endless), 1, 0, api.ErrRange},
		{most + 1, 1, 0, api.ErrRange},
		{most / 1000000, 1000000, most, api.OK},
		{math.Nextafter(most/1000000, endless), 1000000, most, api.OK},
		{most/1000000 + 0.000001, 1000000, 0, api.ErrRange},
		{most, 2, 0, api.ErrRange},
		// beyond all whole numbers
		{1 << 63, 1, 0, api.ErrRange},
		{1 << 64, 1, 0, api.ErrRange},
		{1 << 60, 16, 0, api.ErrRange},
		{math.MaxFloat64, 1, 0, api.ErrRange},
		{math.MaxFloat64, 1000000, 0, api.ErrRange},
	} {
		if n, e := real.Take(x.f, x.scale); n != x.n || e != x.e {
			t.Errorf("Take(%v, %d) is %d, %v", x.f, x.scale, n, e)
		}
	}
}

func TestTakeOfEdges(t *testing.T) {
	for _, scale := range scales() {
		for _, f := range good() {
			takes(t, f, scale)
		}
	}
}

// Halves are where a product that was rounded first goes wrong.
func TestTakeNextToHalves(t *testing.T) {
	for _, scale := range scales() {
		for _, whole := range []float64{0, 1, 2, 9, 10, 499, 12345, 1e6, 1<<31 - 1, 98765432101, most - 2, most - 1, most} {
			for near := range 20 {
				for _, f := range around((whole + float64(near) + 0.5) / float64(scale)) {
					takes(t, f, scale)
				}
			}
		}
	}
}

func TestTakeOfManyNumbers(t *testing.T) {
	scale := scales()
	for i, u := range words(100000, 1) {
		f := math.Float64frombits(u)
		if !real.Good(f) {
			continue
		}
		takes(t, f, scale[i%len(scale)])
		// and one whose size a bill might have
		takes(t, math.Ldexp(1+float64(u>>12)*0x1p-52, int(u%70)-25), scale[i%len(scale)])
	}
}

func TestTakeRefuses(t *testing.T) {
	wrong := []int64{0, -1, -100, math.MinInt64, 1000001, 1 << 32, math.MaxInt64}
	for _, f := range bad() {
		for _, scale := range append(scales(), wrong...) { // a wrong scale is named behind it
			if n, e := real.Take(f, scale); n != 0 || e != api.ErrReal {
				t.Errorf("Take(%v, %d) is %d, %v", f, scale, n, e)
			}
		}
	}
	for _, f := range good() {
		for _, scale := range wrong { // too much money is named behind it
			if n, e := real.Take(f, scale); n != 0 || e != api.ErrArg {
				t.Errorf("Take(%v, %d) is %d, %v", f, scale, n, e)
			}
		}
	}
}

func TestCentsByCases(t *testing.T) {
	for _, x := range []struct {
		f float64
		n int64
		e api.Errno
	}{
		{0, 0, api.OK},
		{minus0, 0, api.OK},
		{12000, 1200000, api.OK},
		{0.01, 1, api.OK},
		{19.99, 1999, api.OK},
		{0.29, 29, api.OK},
		{0.125, 12, api.OK},
		{0.375, 38, api.OK},
		{0.005, 1, api.OK},
		{0.015, 1, api.OK},
		{0.004999, 0, api.OK},
		{1e11, most, api.OK},
		{99999999999.99, most - 1, api.OK},
		{1e11 + 0.01, 0, api.ErrRange},
		{1e300, 0, api.ErrRange},
		{math.MaxFloat64, 0, api.ErrRange},
		{-0.01, 0, api.ErrReal},
		{-tiny, 0, api.ErrReal},
		{math.NaN(), 0, api.ErrReal},
		{endless, 0, api.ErrReal},
		{math.Inf(-1), 0, api.ErrReal},
	} {
		if n, e := real.Cents(x.f); n != x.n || e != x.e {
			t.Errorf("Cents(%v) is %d, %v", x.f, n, e)
		}
	}
}

func TestPpmByCases(t *testing.T) {
	for _, x := range []struct {
		f float64
		n int
		e api.Errno
	}{
		{0, 0, api.OK},
		{minus0, 0, api.OK},
		{4.53, 45300, api.OK},
		{6.8, 68000, api.OK},
		{0.0001, 1, api.OK},
		{0.03125, 312, api.OK},
		{0.09375, 938, api.OK},
		{25, 250000, api.OK},
		{25.0001, 250001, api.OK}, // above MaxRate, which is asked elsewhere
		{100, api.MaxPpm, api.OK},
		{100.00004, api.MaxPpm, api.OK},
		{100.0001, 0, api.ErrRange},
		{101, 0, api.ErrRange},
		{1e9, 0, api.ErrRange}, // still money, times 10000
		{1e10, 0, api.ErrRange},
		{math.MaxFloat64, 0, api.ErrRange},
		{-0.0001, 0, api.ErrReal},
		{-tiny, 0, api.ErrReal},
		{math.NaN(), 0, api.ErrReal},
		{endless, 0, api.ErrReal},
		{math.Inf(-1), 0, api.ErrReal},
	} {
		if n, e := real.Ppm(x.f); n != x.n || e != x.e {
			t.Errorf("Ppm(%v) is %d, %v", x.f, n, e)
		}
	}
}

// ppmAsTaken is what Ppm tells of a good f.
func ppmAsTaken(f float64) (int, api.Errno) {
	n, e := taken(f, 10000)
	if n > api.MaxPpm {
		return 0, api.ErrRange
	}
	return int(n), e
}

func TestCentsAndPpmOfEdges(t *testing.T) {
	l := good()
	for near := range 2000 {
		l = append(l, around((float64(near)+0.5)/100)...)
		l = append(l, around((float64(api.MaxPpm-1000+near)+0.5)/10000)...)
	}
	for _, f := range l {
		want, e := taken(f, 100)
		if n, g := real.Cents(f); n != want || g != e {
			t.Errorf("Cents(%v) is %d, %v, not %d, %v", f, n, g, want, e)
		}
		rate, e := ppmAsTaken(f)
		if n, g := real.Ppm(f); n != rate || g != e {
			t.Errorf("Ppm(%v) is %d, %v, not %d, %v", f, n, g, rate, e)
		}
	}
	for _, f := range bad() {
		if n, e := real.Cents(f); n != 0 || e != api.ErrReal {
			t.Errorf("Cents(%v) is %d, %v", f, n, e)
		}
		if n, e := real.Ppm(f); n != 0 || e != api.ErrReal {
			t.Errorf("Ppm(%v) is %d, %v", f, n, e)
		}
	}
}

// P3.2

// same holds bits against each other, so that -0 is not 0.
func same(a, b float64) bool { return math.Float64bits(a) == math.Float64bits(b) }

// nearest is the float64 nearest to a by b.
func nearest(a, b int64) float64 {
	f, _ := new(big.Rat).SetFrac64(a, b).Float64()
	return f
}

// amounts are money that is not below 0.
func amounts() []int64 {
	l := []int64{most/2 - 1, most / 2, most / 3, most - 2, most - 1, most}
	for c := range int64(20000) {
		l = append(l, c, most-c, 9876543210900-c)
	}
	for _, u := range words(50000, 2) {
		l = append(l, int64(u%(most+1)), int64(u%(api.MaxAmount+1)))
	}
	return l
}

func TestDollars(t *testing.T) {
	for _, x := range []struct {
		c int64
		f float64
	}{{0, 0}, {1, 0.01}, {-1, -0.01}, {29, 0.29}, {1999, 19.99}, {-1999, -19.99}, {1200000, 12000}, {most - 1, 99999999999.99}, {most, 1e11}, {-most, -1e11}} {
		if f := real.Dollars(x.c); !same(f, x.f) {
			t.Errorf("Dollars(%d) is %v", x.c, f)
		}
	}
	for _, c := range amounts() {
		for _, c := range []int64{c, -c} {
			if f := real.Dollars(c); !same(f, nearest(c, 100)) {
				t.Fatalf("Dollars(%d) is %v", c, f)
			}
		}
	}
	for _, c := range []int64{most + 1, -most - 1, most + 100, 1 << 53, math.MaxInt64, math.MinInt64, math.MinInt64 + 1} {
		if f := real.Dollars(c); !same(f, 0) {
			t.Errorf("Dollars(%d) is %v", c, f)
		}
	}
}

func TestPercent(t *testing.T) {
	for _, x := range []struct {
		ppm int
		f   float64
	}{{0, 0}, {1, 0.0001}, {45300, 4.53}, {68000, 6.8}, {250000, 25}, {250001, 25.0001}, {api.MaxPpm - 1, 99.9999}, {api.MaxPpm, 100}} {
		if f := real.Percent(x.ppm); !same(f, x.f) {
			t.Errorf("Percent(%d) is %v", x.ppm, f)
		}
	}
	for ppm := 0; ppm <= api.MaxPpm; ppm += 7 {
		if f := real.Percent(ppm); !same(f, nearest(int64(ppm), 10000)) {
			t.Fatalf("Percent(%d) is %v", ppm, f)
		}
	}
	for _, ppm := range []int{-1, -68000, api.MaxPpm + 1, 1 << 32, math.MaxInt, math.MinInt} {
		if f := real.Percent(ppm); !same(f, 0) {
			t.Errorf("Percent(%d) is %v", ppm, f)
		}
	}
}

func TestBits(t *testing.T) {
	for _, x := range []struct {
		f float64
		u uint64
	}{{0, 0}, {minus0, 0}, {tiny, 1}, {least, 1 << 52}, {1, 0x3ff0000000000000}, {1.5, 0x3ff8000000000000}, {100, 0x4059000000000000}, {math.MaxFloat64, 0x7fefffffffffffff}} {
		if u := real.Bits(x.f); u != x.u {
			t.Errorf("Bits(%v) is %x", x.f, u)
		}
	}
	for _, f := range good() {
		want := math.Float64bits(f)
		if f == 0 {
			want = 0
		}
		if u := real.Bits(f); u != want {
			t.Errorf("Bits(%v) is %x", f, u)
		}
	}
	for _, f := range bad() {
		if u := real.Bits(f); u != 0 {
			t.Errorf("Bits(%v) is %x", f, u)
		}
	}
}

func TestOf(t *testing.T) {
	for _, x := range []struct {
		u  uint64
		f  float64
		ok bool
	}{
		{0, 0, true},
		{1, tiny, true},
		{1 << 52, least, true},
		{0x3ff0000000000000, 1, true},
		{0x4059000000000000, 100, true},
		{0x7fefffffffffffff, math.MaxFloat64, true},
		{0x7ff0000000000000, 0, false}, // endless
		{0x7ff0000000000001, 0, false}, // none
		{0x7ff8000000000001, 0, false},
		{0x7fffffffffffffff, 0, false},
		{0x8000000000000000, 0, false}, // -0
		{0x8000000000000001, 0, false}, // below 0
		{0xbff0000000000000, 0, false},
		{0xffefffffffffffff, 0, false},
		{0xfff0000000000000, 0, false},
		{0xfff8000000000000, 0, false},
		{math.MaxUint64, 0, false},
	} {
		if f, ok := real.Of(x.u); !same(f, x.f) || ok != x.ok {
			t.Errorf("Of(%x) is %v, %v", x.u, f, ok)
		}
	}
}

// Of and Bits undo each other.
func TestOfAndBits(t *testing.T) {
	for _, u := range words(100000, 3) {
		f, ok := real.Of(u)
		if is := u < 0x7ff0000000000000; ok != is || is && real.Bits(f) != u || !is && !same(f, 0) {
			t.Fatalf("Of(%x) is %v, %v", u, f, ok)
		}
	}
	for _, f := range good() {
		if g, ok := real.Of(real.Bits(f)); !ok || g != f || math.Signbit(g) {
			t.Errorf("Of the bits of %v is %v, %v", f, g, ok)
		}
	}
}

// P3.3

func TestMoneyComesBack(t *testing.T) {
	for _, c := range amounts() {
		if n, e := real.Cents(real.Dollars(c)); n != c || e != api.OK {
			t.Fatalf("Cents of Dollars(%d) is %d, %v", c, n, e)
		}
	}
	for _, c := range []int64{-1, -100, -most} {
		if n, e := real.Cents(real.Dollars(c)); n != 0 || e != api.ErrReal {
			t.Errorf("Cents of Dollars(%d) is %d, %v", c, n, e)
		}
	}
}

func TestRatesComeBack(t *testing.T) {
	for ppm := range api.MaxPpm + 1 {
		if n, e := real.Ppm(real.Percent(ppm)); n != ppm || e != api.OK {
			t.Fatalf("Ppm of Percent(%d) is %d, %v", ppm, n, e)
		}
	}
}
