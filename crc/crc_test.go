package crc_test

import (
	"hash/crc32"
	"math"
	"math/rand"
	"strings"
	"testing"

	"annuity/crc"
)

const poly = 0xedb88320

// byWords is the sum as the document's words have it, bit by bit.
func byWords(s string) uint32 {
	n := uint32(0xffffffff)
	for _, b := range []byte(s) {
		for place := range 8 {
			differs := n&1 != uint32(b>>place)&1
			n >>= 1
			if differs {
				n ^= poly
			}
		}
	}
	return ^n
}

// text is n bytes of any kind.
func text(r *rand.Rand, n int) string {
	b := make([]byte, n)
	r.Read(b)
	return string(b)
}

// nulls is n bytes 00.
func nulls(n int) string { return strings.Repeat("\x00", n) }

// ones is n bytes ff.
func ones(n int) string { return strings.Repeat("\xff", n) }

// sumOfNulls is the sum of n bytes 00, as the library has it: for more of them than one would lay down in memory.
func sumOfNulls(n int) uint32 {
	piece := make([]byte, 1<<20)
	sum := uint32(0)
	for ; n > len(piece); n -= len(piece) {
		sum = crc32.Update(sum, crc32.IEEETable, piece)
	}
	return crc32.Update(sum, crc32.IEEETable, piece[:n])
}

// ending is the four bytes that make of a text whose sum is from one whose sum is to: the way back from there.
func ending(from, to uint32) string {
	n := ^to
	for range 32 {
		if n>>31 == 1 {
			n = (n^poly)<<1 | 1
		} else {
			n <<= 1
		}
	}
	n ^= ^from
	return string([]byte{byte(n), byte(n >> 8), byte(n >> 16), byte(n >> 24)})
}

// lengths are of texts: short ones all, longer ones beside powers of 2.
func lengths() []int {
	var l []int
	for n := range 20 {
		l = append(l, n)
	}
	for n := 32; n <= 65536; n *= 2 {
		l = append(l, n-1, n, n+1)
	}
	return l
}

// numbers are 32 bits of all kinds.
func numbers(r *rand.Rand) []uint32 {
	l := []uint32{0, 1, 2, 0x7fffffff, 0x80000000, 0x80000001, poly, 0xcbf43926, 0xfffffffe, 0xffffffff}
	for i := range 32 {
		l = append(l, 1<<i, ^uint32(1<<i))
	}
	for range 30 {
		l = append(l, r.Uint32())
	}
	return l
}

// P7.1: Sum

func TestSumByCases(t *testing.T) {
	for _, x := range []struct {
		s    string
		want uint32
	}{
		{"", 0},
		{"123456789", 0xcbf43926},
		{"a", 0xe8b7be43},
		{"abc", 0x352441c2},
		{"\x00", 0xd202ef8d},
		{"\x00\x00\x00\x00", 0x2144df1c},
		{"\xff", 0xff000000},
		{"\xff\xff\xff\xff", 0xffffffff},
		{nulls(32), 0x190a55ad},
		{ones(32), 0xff6cab0b},
		{"The quick brown fox jumps over the lazy dog", 0x414fa339},
	} {
		if g := crc.Sum(x.s); g != x.want {
			t.Errorf("Sum(%q) is %08x, not %08x", x.s, g, x.want)
		}
	}
}

func TestSumOfAllShortTexts(t *testing.T) {
	for i := range 1 << 16 {
		for _, s := range []string{string([]byte{byte(i)}), string([]byte{byte(i), byte(i >> 8)})} {
			if g := crc.Sum(s); g != byWords(s) {
				t.Fatalf("Sum(%q) is %08x, not %08x", s, g, byWords(s))
			}
		}
	}
}

func TestSumOfAllLengths(t *testing.T) {
	r := rand.New(rand.NewSource(1))
	for _, n := range lengths() {
		for _, s := range []string{text(r, n), nulls(n), ones(n), strings.Repeat("é", n/2), strings.Repeat("\xc3(", n/2)} {
			if g := crc.Sum(s); g != byWords(s) || g != crc32.ChecksumIEEE([]byte(s)) {
				t.Errorf("Sum of %d bytes is %08x, not %08x", len(s), g, byWords(s))
			}
		}
	}
	long := text(r, 5_000_000)
	if g := crc.Sum(long); g != crc32.ChecksumIEEE([]byte(long)) {
		t.Errorf("Sum of %d bytes is %08x", len(long), g)
	}
}

// P7.1: Again

func TestAgainByCases(t *testing.T) {
	for _, x := range []struct {
		sum  uint32
		s    string
		want uint32
	}{
		{0, "", 0},
		{0, "123456789", 0xcbf43926},
		{0xcbf43926, "", 0xcbf43926},
		{byWords("1234"), "56789", 0xcbf43926},
		{byWords("12345678"), "9", 0xcbf43926},
		{0xffffffff, "", 0xffffffff},
		{0xffffffff, "\x00", 0xffffffff}, // bits 0 find nothing but these
		{0xffffffff, nulls(100), 0xffffffff},
		{0xffffffff, "\x01", 0x88f8cf69},
	} {
		if g := crc.Again(x.sum, x.s); g != x.want {
			t.Errorf("Again(%08x, %q) is %08x, not %08x", x.sum, x.s, g, x.want)
		}
	}
}

func TestAgainAtAllCuts(t *testing.T) {
	r := rand.New(rand.NewSource(2))
	for _, n := range []int{1, 2, 3, 4, 5, 8, 9, 31, 32, 33, 300} {
		s := text(r, n)
		for cut := range n + 1 {
			if g := crc.Again(crc.Sum(s[:cut]), s[cut:]); g != byWords(s) {
				t.Errorf("Again at %d of %d bytes is %08x, not %08x", cut, n, g, byWords(s))
			}
		}
		sum := uint32(0)
		for i := range n { // byte by byte
			sum = crc.Again(sum, s[i:i+1])
		}
		if sum != byWords(s) {
			t.Errorf("Again byte by byte of %d bytes is %08x, not %08x", n, sum, byWords(s))
		}
	}
}

func TestAgainOfAnySum(t *testing.T) {
	r := rand.New(rand.NewSource(3))
	for _, sum := range numbers(r) {
		for _, head := range []string{"", "a", text(r, 30)} {
			head += ending(byWords(head), sum)
			for _, n := range []int{0, 1, 2, 3, 4, 5, 100} {
				s := text(r, n)
				if g := crc.Again(sum, s); g != byWords(head+s) {
					t.Errorf("Again(%08x, %d bytes) is %08x, not %08x", sum, n, g, byWords(head+s))
				}
			}
		}
	}
}

// P7.1: Join

func TestJoinByCases(t *testing.T) {
	for _, x := range []struct {
		a, b uint32
		n    int
		want uint32
	}{
		{byWords("1234"), byWords("56789"), 5, 0xcbf43926},
		{byWords("12345678"), byWords("9"), 1, 0xcbf43926},
		{0, 0xcbf43926, 9, 0xcbf43926}, // nothing ahead
		{0xcbf43926, 0, 0, 0xcbf43926}, // nothing behind
		{0, 0, 0, 0},
		{0xffffffff, 0, 0, 0xffffffff},
		{byWords("\x00"), byWords(nulls(31)), 31, 0x190a55ad},
		{0xffffffff, byWords(nulls(4)), 4, 0xffffffff},
		{0xcbf43926, 0xcbf43926, 9, byWords("123456789123456789")},
	} {
		if g := crc.Join(x.a, x.b, x.n); g != x.want {
			t.Errorf("Join(%08x, %08x, %d) is %08x, not %08x", x.a, x.b, x.n, g, x.want)
		}
	}
}

func TestJoinBelow0(t *testing.T) {
	r := rand.New(rand.NewSource(4))
	for _, n := range []int{-1, -2, -4, -8, -9, math.MinInt32, math.MinInt32 - 1, -1 << 40, math.MinInt, math.MinInt + 1} {
		for _, a := range numbers(r) {
			for _, b := range []uint32{0, 1, a, ^a, 0xffffffff} {
				if g := crc.Join(a, b, n); g != 0 {
					t.Fatalf("Join(%08x, %08x, %d) is %08x", a, b, n, g)
				}
			}
		}
	}
}

func TestJoinOfAllLengths(t *testing.T) {
	r := rand.New(rand.NewSource(5))
	for _, n := range lengths() {
		for _, m := range []int{0, 1, 2, 3, 4, 7, 64, 1000} {
			for _, x := range [][2]string{{text(r, m), text(r, n)}, {ones(m), nulls(n)}, {nulls(m), ones(n)}} {
				want := crc32.ChecksumIEEE([]byte(x[0] + x[1]))
				if g := crc.Join(crc.Sum(x[0]), crc.Sum(x[1]), n); g != want {
					t.Errorf("Join of %d and %d bytes is %08x, not %08x", m, n, g, want)
				}
			}
		}
	}
}

func TestJoinOfAnySums(t *testing.T) {
	r := rand.New(rand.NewSource(6))
	for _, a := range numbers(r) {
		head := ending(0, a)
		for _, b := range numbers(r) {
			s := text(r, r.Intn(10))
			s += ending(byWords(s), b)
			if g := crc.Join(a, b, len(s)); g != byWords(head+s) {
				t.Fatalf("Join(%08x, %08x, %d) is %08x, not %08x", a, b, len(s), g, byWords(head+s))
			}
		}
	}
}

func TestJoinOfLongTexts(t *testing.T) {
	head := uint32(0xcbf43926) // of 9 bytes, then 00 alone
	for _, n := range []int{1 << 20, 1<<20 + 1, 12345678, 1 << 27, math.MaxInt32 - 9} {
		want := head
		piece := make([]byte, 1<<20)
		for left := n; left > 0; left -= len(piece) {
			want = crc32.Update(want, crc32.IEEETable, piece[:min(left, len(piece))])
		}
		if g := crc.Join(head, sumOfNulls(n), n); g != want {
			t.Errorf("Join of 9 and %d bytes is %08x, not %08x", n, g, want)
		}
	}
}

func TestJoinEndsForAllNumbers(t *testing.T) {
	r := rand.New(rand.NewSource(7))
	for _, n := range []int{math.MaxInt32, 1 << 32, 1<<32 - 1, 1<<62 - 1, 1 << 62, math.MaxInt - 1, math.MaxInt} {
		for _, a := range numbers(r) {
			b := r.Uint32()
			if g := crc.Join(a, b, n); g != crc.Join(a, 0, n)^b {
				t.Errorf("Join(%08x, %08x, %d) is %08x", a, b, n, g)
			}
		}
	}
}

func TestJoinOfThree(t *testing.T) {
	r := rand.New(rand.NewSource(8))
	for range 500 {
		a, b, c := r.Uint32(), r.Uint32(), r.Uint32()
		n, m := 4+r.Intn(1<<r.Intn(30)), 4+r.Intn(1<<r.Intn(30)) // of four bytes or more there is a text of each sum
		left := crc.Join(crc.Join(a, b, n), c, m)
		right := crc.Join(a, crc.Join(b, c, m), n+m)
		if left != right {
			t.Fatalf("Join of %08x, %08x, %08x of %d and %d bytes is %08x and %08x", a, b, c, n, m, left, right)
		}
	}
}

// P7.2

// flip is a text of whose bits from a place on those are turned over that are 1 in a pattern.
func flip(s string, at int, pattern uint32) string {
	b := []byte(s)
	for i := range 32 {
		if pattern>>i&1 == 1 {
			b[(at+i)/8] ^= 1 << ((at + i) % 8)
		}
	}
	return string(b)
}

func TestShortStretchesDiffer(t *testing.T) {
	r := rand.New(rand.NewSource(9))
	for _, s := range []string{nulls(5), ones(5), text(r, 5), text(r, 9)} {
		sum := crc.Sum(s)
		for at := range 8*len(s) - 10 {
			for pattern := uint32(1); pattern < 1<<11; pattern++ {
				if f := flip(s, at, pattern); crc.Sum(f) == sum {
					t.Fatalf("Sum(%q) and Sum(%q) are %08x", s, f, sum)
				}
			}
		}
	}
}

func TestStretchesOf32BitsDiffer(t *testing.T) {
	r := rand.New(rand.NewSource(10))
	for _, n := range []int{4, 5, 8, 60, 256} {
		s := text(r, n)
		sum := crc.Sum(s)
		for at := range 8*n - 31 {
			for _, pattern := range numbers(r) {
				if f := flip(s, at, pattern); pattern != 0 && crc.Sum(f) == sum {
					t.Fatalf("Sum of %d bytes is %08x with %08x turned over at %d too", n, sum, pattern, at)
				}
			}
		}
	}
}

func TestStretchesOfLongTextsDiffer(t *testing.T) {
	r := rand.New(rand.NewSource(11))
	s := text(r, 60000)
	sum := crc.Sum(s)
	for range 200 {
		at, pattern := r.Intn(8*len(s)-31), r.Uint32()|1
		if crc.Sum(flip(s, at, pattern)) == sum {
			t.Fatalf("Sum of %d bytes is %08x with %08x turned over at %d too", len(s), sum, pattern, at)
		}
	}
}

// Texts of four bytes differ in one stretch at most: no two have the same sum.
func TestFourBytesAreTold(t *testing.T) {
	r := rand.New(rand.NewSource(12))
	of := map[uint32]string{}
	for range 200000 {
		s := text(r, 4)
		sum := crc.Sum(s)
		if was, ok := of[sum]; ok && was != s {
			t.Fatalf("Sum(%q) and Sum(%q) are %08x", s, was, sum)
		}
		of[sum] = s
		if ending(0, sum) != s {
			t.Fatalf("Sum(%q) is %08x", s, sum)
		}
	}
}
