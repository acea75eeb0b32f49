// Package money is layer 1: see shared/doc/01-money.md.
package money

import (
	"math/bits"

	"annuity/api"
)

// How a quotient is rounded.
const (
	Down = 0
	Up   = 1
	Even = 2
)

func Good(a int64) bool { return -api.MaxMoney <= a && a <= api.MaxMoney }

func Add(a, b int64) (int64, api.Errno) {
	return told(func() int64 { return plus(a, b) })
}

func Sub(a, b int64) (int64, api.Errno) {
	// The one number whose opposite overflows is its own opposite then, which is no money either.
	return told(func() int64 { return plus(a, -b) })
}

func Sum(l []int64) (int64, api.Errno) {
	return told(func() int64 {
		n := int64(0)
		for _, a := range l {
			n = plus(n, a)
		}
		return n
	})
}

// told keeps the panic of a sum that is too great within this package.
func told(sum func() int64) (n int64, e api.Errno) {
	defer func() {
		if recover() != nil {
			n, e = 0, api.ErrRange
		}
	}()
	return sum(), api.OK
}

// plus can't overflow, since both are looked at before they are added.
func plus(a, b int64) int64 { return must(must(a) + must(b)) }

// must panics, so that a sum need not ask behind each step whether it may go on.
func must(a int64) int64 {
	if !Good(a) {
		panic(api.ErrRange)
	}
	return a
}

func MulDiv(a, b, c int64, how int) (int64, api.Errno) {
	if a < 0 || b < 0 || c <= 0 || how < Down || how > Even {
		return 0, api.ErrArg
	}
	hi, lo := Mul(uint64(a), uint64(b))
	q, r, ok := Div(hi, lo, uint64(c))
	// A quotient that is too great is told ahead of rounding, which could wrap it round to 0.
	if !ok || q > api.MaxMoney {
		return 0, api.ErrRange
	}
	if rises(q, r, uint64(c), how) {
		q++
	}
	if q > api.MaxMoney {
		return 0, api.ErrRange
	}
	return int64(q), api.OK
}

func rises(q, r, c uint64, how int) bool {
	switch how {
	case Up:
		return r > 0
	case Even:
		// Held against what it lacks, the rest need not be doubled, which might overflow.
		lacks := c - r
		return r > lacks || r == lacks && q%2 == 1
	}
	return false
}

func Mul(a, b uint64) (hi, lo uint64) { return bits.Mul64(a, b) }

func Div(hi, lo, c uint64) (q, r uint64, ok bool) {
	if hi >= c { // so also where c is 0
		return 0, 0, false
	}
	q, r = bits.Div64(hi, lo, c)
	return q, r, true
}
