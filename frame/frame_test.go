package frame_test

import (
	"encoding/binary"
	"hash/crc32"
	"math"
	"math/rand"
	"slices"
	"strings"
	"testing"
	"unsafe"

	"annuity/api"
	"annuity/frame"
)

const piece = 244

var order = binary.LittleEndian

// two and four are a number's bytes, as the library lays them.
func two(n int) string     { return string(order.AppendUint16(nil, uint16(n))) }
func four(n uint32) string { return string(order.AppendUint32(nil, n)) }

// nulls is n bytes 00.
func nulls(n int) string { return strings.Repeat("\x00", n) }

// random is n bytes of any kind.
func random(r *rand.Rand, n int) string {
	b := make([]byte, n)
	r.Read(b)
	return string(b)
}

// summed is bytes and their sum.
func summed(s string) string { return s + four(crc32.ChecksumIEEE([]byte(s))) }

// filled is bytes, filled up to whole pieces.
func filled(s string) string { return s + nulls((piece-len(s)%piece)%piece) }

// pieces are the bytes, cut.
func pieces(s string) []string {
	var l []string
	for ; s != ""; s = s[piece:] {
		l = append(l, s[:piece])
	}
	return l
}

// sector is one as the chapter's words have it.
func sector(num uint32, place, many int, s string) string {
	return four(num) + two(place) + two(many) + s + four(num)
}

// sectors are those of a record whose bytes, filled up, are s, whatever they are.
func sectors(num uint32, s string) []string {
	cut := pieces(s)
	l := make([]string, len(cut))
	for i, p := range cut {
		l[i] = sector(num, i, len(cut), p)
	}
	return l
}

// byWords are a text's sectors as the chapter's words have them.
func byWords(num uint32, s string) []string {
	return sectors(num, filled(summed(four(uint32(len(s)))+s)))
}

// must are the sectors that Make tells.
func must(t *testing.T, num uint32, s string) []string {
	t.Helper()
	l, e := frame.Make(num, s)
	if e != api.OK {
		t.Fatalf("Make(%d, %d bytes): %v", num, len(s), e)
	}
	return l
}

// isRecord holds what is read against a text and how many sectors it has.
func isRecord(t *testing.T, l []string, num uint32, s string, n int) {
	t.Helper()
	was := slices.Clone(l)
	if gs, gn, ok := frame.Read(l, num); gs != s || gn != n || !ok {
		t.Fatalf("Read(%d sectors, %d): %d bytes, %d, %v, not %d bytes, %d", len(l), num, len(gs), gn, ok, len(s), n)
	}
	if !slices.Equal(l, was) {
		t.Fatalf("Read(%d sectors, %d) changed them", len(l), num)
	}
}

func isNone(t *testing.T, what string, l []string, num uint32) {
	t.Helper()
	if s, n, ok := frame.Read(l, num); s != "" || n != 0 || ok {
		t.Fatalf("%s: Read(%d sectors, %d): %d bytes, %d, %v", what, len(l), num, len(s), n, ok)
	}
}

// lengths are of texts: short ones all, longer ones where a piece more begins, and the longest.
func lengths() []int {
	var l []int
	for n := range 2*piece + 10 {
		l = append(l, n)
	}
	for k := 3; k*piece < api.MaxText; k += 1 + k/4 {
		for d := -10; d <= 2; d++ {
			l = append(l, k*piece+d)
		}
	}
	for n := api.MaxText - 20; n <= api.MaxText; n++ {
		l = append(l, n)
	}
	return l
}

var numbers = []uint32{1, 2, 255, 256, 257, 65535, 65536, 1 << 24, 0x01020304, 1<<31 - 1, 1 << 31, 1<<31 + 1000001, math.MaxUint32 - 1, math.MaxUint32}

// texts of all kinds that have so many bytes.
func texts(r *rand.Rand, n int) []string {
	return []string{random(r, n), nulls(n), strings.Repeat("\xff", n)}
}

// P10.1: Size

func TestSizeByCases(t *testing.T) {
	for _, x := range []struct{ n, want int }{
		{0, 1}, {1, 1}, {235, 1}, {236, 1}, {237, 2}, {479, 2}, {480, 2}, {481, 3}, {724, 3}, {725, 4},
		{59771, 245}, {59772, 245}, {59773, 246}, {59999, 246}, {60000, 246},
		{60001, 0}, {60016, 0}, {60017, 0}, {65535, 0}, {65536, 0}, {1 << 31, 0}, {1 << 32, 0}, {1<<32 + 1, 0},
		{math.MaxInt - 251, 0}, {math.MaxInt - 1, 0}, {math.MaxInt, 0},
		{-1, 0}, {-7, 0}, {-8, 0}, {-9, 0}, {-252, 0}, {-1 << 32, 0}, {math.MinInt + 1, 0}, {math.MinInt, 0},
	} {
		if g := frame.Size(x.n); g != x.want {
			t.Errorf("Size(%d) is %d, not %d", x.n, g, x.want)
		}
	}
}

func TestSizeOfAllLengths(t *testing.T) {
	for n := -1000; n <= api.MaxText+1000; n++ {
		want := 0
		if n >= 0 && n <= api.MaxText {
			for want*piece < n+8 {
				want++
			}
		}
		if g := frame.Size(n); g != want {
			t.Fatalf("Size(%d) is %d, not %d", n, g, want)
		}
	}
}

// P10.1: Make

func TestMadeByCases(t *testing.T) {
	for _, x := range []struct {
		num  uint32
		s    string
		want []string
	}{
		{1, "", []string{"\x01\x00\x00\x00" + "\x00\x00" + "\x01\x00" + nulls(4) + "\x1c\xdf\x44\x21" + nulls(236) + "\x01\x00\x00\x00"}},
		{0x01020304, "a", []string{"\x04\x03\x02\x01" + "\x00\x00" + "\x01\x00" + "\x01\x00\x00\x00" + "a" + four(crc32.ChecksumIEEE([]byte("\x01\x00\x00\x00a"))) + nulls(235) + "\x04\x03\x02\x01"}},
		{math.MaxUint32, nulls(236), []string{"\xff\xff\xff\xff" + "\x00\x00" + "\x01\x00" + "\xec\x00\x00\x00" + nulls(236) + four(crc32.ChecksumIEEE([]byte("\xec\x00\x00\x00"+nulls(236)))) + "\xff\xff\xff\xff"}},
	} {
		if g, e := frame.Make(x.num, x.s); !slices.Equal(g, x.want) || e != api.OK {
			t.Errorf("Make(%d, %q): %q, %v, not %q", x.num, x.s, g, e, x.want)
		}
	}
}

func TestMadeOfAllLengths(t *testing.T) {
	r := rand.New(rand.NewSource(1))
	for i, n := range lengths() {
		for _, s := range texts(r, n) {
			num := numbers[i%len(numbers)]
			l := must(t, num, s)
			if !slices.Equal(l, byWords(num, s)) || len(l) != frame.Size(n) {
				t.Fatalf("Make(%d, %d bytes) tells other sectors", num, n)
			}
		}
	}
}

func TestMadeOfAllNumbers(t *testing.T) {
	r := rand.New(rand.NewSource(2))
	l := slices.Clone(numbers)
	for range 1000 {
		l = append(l, r.Uint32()>>r.Intn(32)|1)
	}
	for _, num := range l {
		s := random(r, r.Intn(600))
		if !slices.Equal(must(t, num, s), byWords(num, s)) {
			t.Fatalf("Make(%d, %q) tells other sectors", num, s)
		}
	}
}

func TestWhatCanNotBeMade(t *testing.T) {
	long := strings.Repeat("x", 1<<20)
	for _, x := range []struct {
		num uint32
		n   int
		e   api.Errno
	}{
		{0, 0, api.ErrArg}, {0, 5, api.ErrArg}, {0, api.MaxText, api.ErrArg},
		{0, api.MaxText + 1, api.ErrArg}, {0, len(long), api.ErrArg}, // named first
		{1, api.MaxText + 1, api.ErrLong}, {1, api.MaxText + 16, api.ErrLong}, {7, 65535, api.ErrLong},
		{7, 65536, api.ErrLong}, {math.MaxUint32, 65537, api.ErrLong}, {2, len(long), api.ErrLong},
	} {
		if l, e := frame.Make(x.num, long[:x.n]); len(l) != 0 || e != x.e {
			t.Errorf("Make(%d, %d bytes): %d sectors, %v, not %v", x.num, x.n, len(l), e, x.e)
		}
	}
}

func TestMadeIsNewEachTime(t *testing.T) {
	s := strings.Repeat("what is owed ", 60)
	a, b := must(t, 9, s), must(t, 9, s)
	for _, l := range [][]string{a, a[:cap(a)]} {
		for i := range l {
			l[i] = "spoilt"
		}
	}
	_ = append(a, "spoilt")
	if !slices.Equal(b, byWords(9, s)) || !slices.Equal(must(t, 9, s), b) {
		t.Error("what one call told hangs on another one's list")
	}
}

// P10.1: Num

// numByWords is a sector's number as the chapter's words have it.
func numByWords(b string) uint32 {
	if len(b) != api.Sector || b[:4] != b[len(b)-4:] {
		return 0
	}
	return order.Uint32([]byte(b))
}

func TestNumByCases(t *testing.T) {
	whole := sector(0x01020304, 0, 1, nulls(piece))
	for _, x := range []struct {
		what, b string
		want    uint32
	}{
		{"a sector", whole, 0x01020304},
		{"any middle", four(5) + strings.Repeat("\xff", 248) + four(5), 5},
		{"nothing but the number", four(5) + nulls(248) + four(5), 5},
		{"the greatest number", strings.Repeat("\xff", 256), math.MaxUint32},
		{"the highest byte alone", four(1<<24) + nulls(248) + four(1<<24), 1 << 24},
		{"all 00", nulls(256), 0},
		{"number 0", nulls(4) + strings.Repeat("x", 248) + nulls(4), 0},
		{"nothing", "", 0},
		{"four bytes", four(7), 0},
		{"eight bytes", four(7) + four(7), 0},
		{"three bytes", "\x07\x07\x07", 0},
		{"a byte less", whole[:4] + whole[5:], 0},
		{"without the last byte", whole[:255], 0},
		{"without the first byte", whole[1:], 0},
		{"a byte more", whole[:4] + "\x00" + whole[4:], 0},
		{"a byte behind", whole + "\x00", 0},
		{"a byte ahead", "\x00" + whole, 0},
		{"two sectors", whole + whole, 0},
		{"255 alike", strings.Repeat("\x01", 255), 0},
		{"257 alike", strings.Repeat("\x01", 257), 0},
		{"many alike", strings.Repeat("\x01", 1<<20), 0},
		{"turned round", four(0x01020304) + nulls(248) + "\x01\x02\x03\x04", 0},
		{"the number ahead alone", four(5) + nulls(252), 0},
		{"the number behind alone", nulls(252) + four(5), 0},
	} {
		if g := frame.Num(x.b); g != x.want {
			t.Errorf("Num of %s is %d, not %d", x.what, g, x.want)
		}
	}
}

func TestNumHangsOnBothEnds(t *testing.T) {
	r := rand.New(rand.NewSource(3))
	for _, num := range numbers {
		b := []byte(sector(num, r.Intn(300), r.Intn(300), random(r, piece)))
		for i := range b {
			for bit := range 8 {
				b[i] ^= 1 << bit
				want := num
				if i < 4 || i >= 252 {
					want = 0
				}
				if g := frame.Num(string(b)); g != want {
					t.Fatalf("Num with bit %d of byte %d turned over is %d, not %d", bit, i, g, want)
				}
				b[i] ^= 1 << bit
			}
		}
	}
}

func TestNumOfWhatWasMade(t *testing.T) {
	r := rand.New(rand.NewSource(4))
	for _, num := range numbers {
		for _, b := range must(t, num, random(r, r.Intn(3000))) {
			if g := frame.Num(b); g != num {
				t.Errorf("Num is %d, not %d", g, num)
			}
		}
	}
}

// P10.2, P10.3: what is read as it was made

func TestReadAsItWasMade(t *testing.T) {
	r := rand.New(rand.NewSource(5))
	for i, n := range lengths() {
		for _, s := range texts(r, n) {
			num := numbers[i%len(numbers)]
			isRecord(t, must(t, num, s), num, s, frame.Size(n))
			isRecord(t, byWords(num, s), num, s, frame.Size(n))
		}
	}
}

func TestReadWithOthersBehind(t *testing.T) {
	r := rand.New(rand.NewSource(6))
	for _, n := range []int{0, 1, 236, 237, 480, 5000, api.MaxText} {
		s := random(r, n)
		l, size := byWords(7, s), frame.Size(n)
		for _, behind := range [][]string{
			{""}, {nulls(256)}, {"x"}, byWords(8, s), byWords(7, s), byWords(6, s),
			{sector(7, size, size, nulls(piece))}, {sector(7, size, size+1, nulls(piece))}, make([]string, 4096),
		} {
			isRecord(t, append(slices.Clone(l), behind...), 7, s, size)
		}
	}
}

func TestRecordsOneBehindTheOther(t *testing.T) {
	r := rand.New(rand.NewSource(7))
	for range 50 {
		var all, said []string
		for i := range 20 {
			said = append(said, random(r, r.Intn(1<<r.Intn(12))))
			all = append(all, must(t, uint32(i+1), said[i])...)
		}
		for i, s := range said {
			got, n, ok := frame.Read(all, uint32(i+1))
			if got != s || !ok || n != frame.Size(len(s)) {
				t.Fatalf("record %d: %d bytes, %d, %v, not %d bytes", i+1, len(got), n, ok, len(s))
			}
			isNone(t, "of the next number", all, uint32(i+2))
			all = all[n:]
		}
		isNone(t, "at the end", all, 21)
	}
}

func TestReadIsNewMemory(t *testing.T) {
	for _, s := range []string{"a", strings.Repeat("b", 236), strings.Repeat("c", 1000)} {
		l := byWords(3, s)
		got, _, _ := frame.Read(l, 3)
		at := uintptr(unsafe.Pointer(unsafe.StringData(got)))
		for _, b := range l {
			if from := uintptr(unsafe.Pointer(unsafe.StringData(b))); at >= from && at < from+256 {
				t.Errorf("a text of %d bytes lies in its sector", len(s))
			}
		}
	}
}

// P10.2, P10.3: what is none

func TestNoSectors(t *testing.T) {
	for _, num := range append([]uint32{0}, numbers...) {
		isNone(t, "nil", nil, num)
		isNone(t, "no sectors", []string{}, num)
		isNone(t, "an empty sector", []string{""}, num)
		isNone(t, "bytes 00", []string{nulls(256)}, num)
		isNone(t, "short ones", []string{four(num), four(num) + four(num)}, num)
		isNone(t, "ones without a piece", []string{four(num) + two(0) + two(1) + four(num)}, num)
		isNone(t, "many", make([]string, 10000), num)
	}
}

func TestNumber0IsNone(t *testing.T) {
	for _, n := range []int{0, 1, 236, 237, 1000} {
		s := strings.Repeat("x", n)
		isNone(t, "number 0", byWords(0, s), 0)
		isNone(t, "asked for 0", byWords(1, s), 0)
		isNone(t, "number 0", byWords(0, s), 1)
	}
	isNone(t, "an empty text of number 0", []string{sector(0, 0, 0, nulls(piece))}, 0)
}

func TestOtherNumbers(t *testing.T) {
	for _, s := range []string{"", "a", strings.Repeat("b", 300)} {
		for _, num := range numbers {
			l := byWords(num, s)
			for _, other := range append([]uint32{0, num + 1, num - 1, ^num, num << 8, num >> 8}, numbers...) {
				if other != num {
					isNone(t, "of another number", l, other)
				}
			}
			for bit := range 32 {
				isNone(t, "of a number of which a bit differs", l, num^1<<bit)
			}
		}
	}
}

func TestEachByteMatters(t *testing.T) {
	r := rand.New(rand.NewSource(8))
	for _, n := range []int{0, 1, 100, 235, 236, 237, 470, 700} {
		s := random(r, n)
		l := must(t, 0x01020304, s)
		for i := range l {
			was := l[i]
			for at := range 256 {
				b := []byte(was)
				for _, x := range []byte{1 << r.Intn(8), byte(1 + r.Intn(255)), 0xff} {
					b[at] = was[at] ^ x
					l[i] = string(b)
					isNone(t, "with a byte changed", l, 0x01020304)
				}
			}
			l[i] = was
		}
		isRecord(t, l, 0x01020304, s, len(l))
	}
}

func TestSectorsOfAnotherSize(t *testing.T) {
	r := rand.New(rand.NewSource(9))
	for _, n := range []int{0, 236, 237, 800} {
		l := must(t, 5, random(r, n))
		for i, was := range l {
			for _, b := range []string{
				"", was[:4], was[:8], was[:255], was[1:], was + "\x00", "\x00" + was, was + was,
				was[:251] + was[252:], was[:252] + "\x00" + was[252:], was[:8] + was[252:], was[:252],
			} {
				l[i] = b
				isNone(t, "with a sector of another size", l, 5)
			}
			l[i] = was
		}
	}
}

func TestSectorsThatAreMissing(t *testing.T) {
	r := rand.New(rand.NewSource(10))
	for _, n := range []int{0, 236, 237, 481, 1000, 60000} {
		l := must(t, 5, random(r, n))
		for i, was := range l {
			isNone(t, "without a sector", slices.Delete(slices.Clone(l), i, i+1), 5)
			isNone(t, "with the beginning alone, all there in the spare room", l[:i], 5)
			isNone(t, "without the beginning", l[i+1:], 5)
			if i+1 < len(l) { // the last one, twice, is something behind the record
				isNone(t, "with one twice", slices.Insert(slices.Clone(l), i, was), 5)
			}
			for _, other := range []string{nulls(256), "", sector(6, i, len(l), was[8:252]), sector(0, i, len(l), was[8:252]), sector(4, i, len(l), was[8:252])} {
				l[i] = other
				isNone(t, "with another one in its place", l, 5)
			}
			l[i] = was
		}
	}
}

func TestSectorsInOtherPlaces(t *testing.T) {
	r := rand.New(rand.NewSource(11))
	l := must(t, 5, nulls(2000)) // all pieces but the first and the last are alike
	for i := range l {
		for j := range i {
			l[i], l[j] = l[j], l[i]
			isNone(t, "with two that changed places", l, 5)
			l[i], l[j] = l[j], l[i]
		}
	}
	slices.Reverse(l)
	isNone(t, "the last one first", l, 5)
	slices.Reverse(l)
	for i, was := range l {
		for _, place := range []int{-1, 0, 1, i - 1, i + 1, i ^ 256, len(l), 65535, r.Intn(65536)} {
			if place != i {
				l[i] = sector(5, place, len(l), was[8:252])
				isNone(t, "with a wrong place", l, 5)
			}
		}
		for _, many := range []int{0, 1, len(l) - 1, len(l) + 1, len(l) ^ 256, 65535, r.Intn(65536)} {
			if many != len(l) {
				l[i] = sector(5, i, many, was[8:252])
				isNone(t, "with a wrong count", l, 5)
			}
		}
		l[i] = was
	}
	isRecord(t, l, 5, nulls(2000), len(l))
}

func TestCountsThatAgree(t *testing.T) {
	for _, n := range []int{0, 236, 237, 1000} {
		s := strings.Repeat("y", n)
		cut := pieces(filled(summed(four(uint32(n)) + s)))
		for _, many := range []int{0, 1, 2, 3, 4, 5, 6, 255, 256, 257, 65535} {
			if many == len(cut) {
				continue
			}
			var l []string
			for i := range max(many, len(cut)) { // where there are more, with pieces behind that are empty
				p := nulls(piece)
				if i < len(cut) {
					p = cut[i]
				}
				l = append(l, sector(5, i, many, p))
			}
			isNone(t, "with a wrong count in all", l, 5)
		}
	}
}

// A record's length goes into just so many pieces, whatever the sum says.
func TestLengthsThatDoNotFit(t *testing.T) {
	const most = 245*piece + 236 // bytes of text that fill up as many sectors as MaxText does
	for _, x := range []struct {
		length uint32
		body   int // bytes that the sum is over, beside the length
	}{
		{0, 1}, {1, 0}, {5, 6}, {6, 5}, {236, 237}, {237, 236}, {0, 236}, {0, 237}, {0, 1000}, {1000, 0}, {1000, 100}, {100, 1000},
		{math.MaxUint32, 0}, {math.MaxUint32, 236}, {math.MaxUint32 - 3, 100}, {1 << 31, 10}, {1<<31 - 1, 10}, {1 << 24, 0},
		{0xfffffff8, 0}, {0xfffffffc, 0}, {0xffffff00, 244}, {200 << 24, 200},
		{api.MaxText + 1, api.MaxText + 1}, {most, most}, {most + 1, most + 1}, {65535, 65535}, {65536, 65536}, {100000, 100000},
		{api.MaxText + 1, 10}, {api.MaxText, 10}, {10, api.MaxText},
	} {
		l := sectors(5, filled(summed(four(x.length)+strings.Repeat("z", x.body))))
		isNone(t, "a length that does not fit", l, 5)
		isNone(t, "a length that does not fit, more behind", append(l, make([]string, 500)...), 5)
	}
}

// The text fits, but there is a piece more, that is empty, in all counts.
func TestPiecesThatAreTooMany(t *testing.T) {
	for _, n := range []int{0, 1, 235, 236, 237, 479, 480, 481, 59772, api.MaxText} {
		all := filled(summed(four(uint32(n)) + strings.Repeat("x", n)))
		for _, more := range []int{1, 2, 10} {
			isNone(t, "pieces more", sectors(5, all+nulls(more*piece)), 5)
		}
		isRecord(t, sectors(5, all), 5, strings.Repeat("x", n), frame.Size(n))
		if len(all) > piece {
			isNone(t, "a piece less", sectors(5, all[:len(all)-piece]), 5)
		}
	}
}

func TestSumsThatAreWrong(t *testing.T) {
	r := rand.New(rand.NewSource(12))
	for _, n := range []int{0, 1, 5, 100, 236, 237, 1000, api.MaxText} {
		s := random(r, n)
		length := four(uint32(n))
		sum := crc32.ChecksumIEEE([]byte(length + s))
		of := map[string]uint32{
			"0":              0,
			"one more":       sum + 1,
			"not":            ^sum,
			"of the text":    crc32.ChecksumIEEE([]byte(s)),
			"of what is cut": crc32.ChecksumIEEE([]byte(filled(length + s + nulls(4)))),
			"of the end":     crc32.ChecksumIEEE([]byte(s + length)),
			"turned round":   sum>>24 | sum>>8&0xff00 | sum<<8&0xff0000 | sum<<24,
			"of Castagnoli":  crc32.Checksum([]byte(length+s), crc32.MakeTable(crc32.Castagnoli)),
		}
		for what, wrong := range of {
			if wrong != sum {
				isNone(t, "the sum is "+what, sectors(5, filled(length+s+four(wrong))), 5)
			}
		}
		for bit := range 32 {
			isNone(t, "the sum with a bit turned over", sectors(5, filled(length+s+four(sum^1<<bit))), 5)
		}
		isRecord(t, sectors(5, filled(length+s+four(sum))), 5, s, frame.Size(n))
	}
}

func TestWhatIsFilledUp(t *testing.T) {
	for _, n := range []int{0, 1, 100, 234, 235, 237, 400, 479, 1000, api.MaxText} {
		s := strings.Repeat("w", n)
		b := []byte(filled(summed(four(uint32(n)) + s)))
		for at := n + 8; at < len(b); at++ {
			for _, x := range []byte{1, 0x20, 0x80, 0xff} {
				b[at] = x
				isNone(t, "filled up with something else", sectors(5, string(b)), 5)
			}
			b[at] = 0
		}
		isRecord(t, sectors(5, string(b)), 5, s, frame.Size(n))
	}
}

func TestSectorsOfTwoTexts(t *testing.T) {
	r := rand.New(rand.NewSource(13))
	for _, n := range []int{237, 481, 2000} {
		a, b := byWords(5, random(r, n)), byWords(5, random(r, n))
		for i := range a {
			l := slices.Clone(a)
			l[i] = b[i]
			isNone(t, "with another text's sector", l, 5)
			copy(l[i:], b[i:])
			if i > 0 {
				isNone(t, "with another text's end", l, 5)
			}
		}
	}
}

// readByWords is Read, condition by condition, as the chapter has them.
func readByWords(l []string, num uint32) (string, int, bool) {
	if len(l) == 0 || len(l[0]) != 256 {
		return "", 0, false
	}
	n, all := int(order.Uint16([]byte(l[0][6:]))), ""
	if n == 0 || n > len(l) {
		return "", 0, false
	}
	for i, b := range l[:n] {
		if num == 0 || numByWords(b) != num || b[4:6] != two(i) || b[6:8] != two(n) {
			return "", 0, false
		}
		all += b[8:252]
	}
	length := uint64(order.Uint32([]byte(all)))
	if length > api.MaxText || (length+8+piece-1)/piece != uint64(n) {
		return "", 0, false
	}
	if s := all[:4+length]; all != filled(summed(s)) {
		return "", 0, false
	}
	return all[4 : 4+length], n, true
}

// Sectors of a few numbers, places and counts come in any order: what is a record is told, and nothing else.
func TestReadAgainstTheWords(t *testing.T) {
	r := rand.New(rand.NewSource(14))
	told := 0
	for range 200000 {
		var stock []string
		for num := uint32(1); num <= 2; num++ {
			stock = append(stock, byWords(num, nulls(r.Intn(3)*240))...)
		}
		l := make([]string, 1+r.Intn(4))
		for i := range l {
			b := []byte(stock[r.Intn(len(stock))])
			if r.Intn(6) == 0 {
				b[[]int{0, 4, 6, 8, 12, 200, 251, 252}[r.Intn(8)]] ^= byte(r.Intn(4))
			}
			l[i] = string(b)
		}
		num := uint32(r.Intn(3))
		s, n, ok := frame.Read(l, num)
		if ws, wn, wok := readByWords(l, num); s != ws || n != wn || ok != wok {
			t.Fatalf("Read(%q, %d): %d bytes, %d, %v, not %d bytes, %d, %v", l, num, len(s), n, ok, len(ws), wn, wok)
		}
		if ok {
			told++
		}
	}
	if told < 1000 {
		t.Errorf("just %d records were there", told)
	}
}

func TestReadOfAnyBytes(t *testing.T) {
	r := rand.New(rand.NewSource(15))
	for range 20000 {
		l := make([]string, r.Intn(4))
		for i := range l {
			l[i] = four(5) + two(i) + two(r.Intn(4)) + random(r, 244-r.Intn(2)*r.Intn(3)) + four(5)
			if r.Intn(3) == 0 {
				l[i] = random(r, r.Intn(300))
			}
		}
		isNone(t, "any bytes", l, uint32(r.Intn(6)))
	}
}

// P10.4

func TestSectorsThatAreWrittenInPart(t *testing.T) {
	r := rand.New(rand.NewSource(16))
	pairs := [][2]uint32{
		{1, 2}, {2, 1}, {255, 256}, {256, 255}, {0x01010101, 0x01010102}, {0x01010101, 0x02010101}, {0x01020304, 0x01020305},
		{0x01020304, 0x04030201}, {0x00000001, 0x01000000}, {0x01000000, 0x00000001}, {math.MaxUint32, 1}, {1, math.MaxUint32},
		{0x01010000, 0x00000101}, {1 << 31, 1<<31 + 1}, {0, 1}, {0, math.MaxUint32}, {0, 1 << 24},
	}
	for range 200 {
		a := r.Uint32()
		pairs = append(pairs, [2]uint32{a, a ^ 1<<r.Intn(32)}, [2]uint32{a, a + 1}, [2]uint32{a, r.Uint32()})
	}
	for _, x := range pairs {
		if x[0] == x[1] || x[1] == 0 {
			continue
		}
		for range 3 {
			inPart(t, sector(x[0], r.Intn(3), r.Intn(3), random(r, piece)), sector(x[1], 0, 1, random(r, piece)))
		}
		inPart(t, sector(x[0], 0, 1, nulls(piece)), sector(x[1], 0, 1, nulls(piece)))
	}
	inPart(t, nulls(256), must(t, 5, "a")[0])
}

// inPart writes each beginning of a new sector over an old one of another number.
func inPart(t *testing.T, old, new string) {
	t.Helper()
	was, is := frame.Num(old), frame.Num(new)
	for k := range 257 {
		b := new[:k] + old[k:]
		g := frame.Num(b)
		if g != was && g != is && g != 0 {
			t.Fatalf("with %d bytes of %d over %d: %d", k, is, was, g)
		}
		if (g == is) != (b == new) {
			t.Fatalf("with %d bytes of %d over %d: %d, all bytes are new: %v", k, is, was, g, b == new)
		}
		if g != numByWords(b) {
			t.Fatalf("with %d bytes of %d over %d: %d, not %d", k, is, was, g, numByWords(b))
		}
	}
}

// A record whose last sector is written first is there just when its first sector is, wholly.
func TestRecordsThatAreWrittenInPart(t *testing.T) {
	r := rand.New(rand.NewSource(17))
	for _, n := range []int{0, 236, 237, 700} {
		s := random(r, n)
		new := must(t, 6, s)
		disk := must(t, 5, random(r, n))
		for i := len(new) - 1; i >= 0; i-- {
			old := disk[i]
			for k := range 257 {
				disk[i] = new[i][:k] + old[k:]
				if i == 0 && disk[0] == new[0] {
					isRecord(t, disk, 6, s, len(new))
				} else {
					isNone(t, "written in part", disk, 6)
				}
			}
		}
	}
}
