package pack_test

import (
	"encoding/binary"
	"math"
	"math/rand"
	"slices"
	"strings"
	"testing"

	"annuity/api"
	"annuity/pack"
)

// item is a number of a size, or (size 0) a text.
type item struct {
	v    uint64
	size int
	s    string
}

func num(v uint64, size int) item { return item{v: v, size: size} }

func text(s string) item { return item{s: s} }

func put(p *pack.Packer, l ...item) {
	for _, x := range l {
		if x.size == 0 {
			p.Text(x.s)
		} else {
			p.Num(x.v, x.size)
		}
	}
}

// packed is what a new Packer tells of items.
func packed(l ...item) (string, api.Errno) {
	var p pack.Packer
	put(&p, l...)
	return p.Done()
}

// byWords is the bytes of items that can be packed, as the library lays them.
func byWords(l ...item) string {
	var b []byte
	for _, x := range l {
		if x.size == 0 {
			b = append(binary.LittleEndian.AppendUint16(b, uint16(len(x.s))), x.s...)
		} else {
			b = append(b, binary.LittleEndian.AppendUint64(nil, x.v)[:x.size]...)
		}
	}
	return string(b)
}

// nulls is n bytes 00.
func nulls(n int) string { return strings.Repeat("\x00", n) }

// random is n bytes of any kind.
func random(r *rand.Rand, n int) string {
	b := make([]byte, n)
	r.Read(b)
	return string(b)
}

var sizes = []int{1, 2, 4, 8}

// wrongSizes are none of these (0 is not among them: item has it for a text).
var wrongSizes = []int{-1, -2, -4, -8, 3, 5, 6, 7, 9, 16, 32, 64, 257, 1<<32 + 1, 1<<61 + 1, 1 << 62, math.MinInt, math.MaxInt}

// greatest is the greatest number that goes into so many bytes.
func greatest(size int) uint64 { return math.MaxUint64 >> (64 - 8*size) }

// some is an item that can be packed.
func some(r *rand.Rand) item {
	if r.Intn(3) == 0 {
		return text(random(r, r.Intn(1<<r.Intn(9))))
	}
	size := sizes[r.Intn(4)]
	return num(r.Uint64()&greatest(size)>>r.Intn(8*size), size)
}

// P8.1

func TestPackedByCases(t *testing.T) {
	for _, x := range []struct {
		l    []item
		want string
	}{
		{nil, ""},
		{[]item{num(5, 2), text("a")}, "\x05\x00\x01\x00a"},
		{[]item{num(0, 1)}, "\x00"},
		{[]item{num(255, 1)}, "\xff"},
		{[]item{num(0, 8)}, nulls(8)},
		{[]item{num(0x0102, 2)}, "\x02\x01"},
		{[]item{num(0x01020304, 4)}, "\x04\x03\x02\x01"},
		{[]item{num(0x0102030405060708, 8)}, "\x08\x07\x06\x05\x04\x03\x02\x01"},
		{[]item{num(math.MaxUint64, 8)}, strings.Repeat("\xff", 8)},
		{[]item{text("")}, "\x00\x00"},
		{[]item{text("\x00")}, "\x01\x00\x00"},
		{[]item{text("é")}, "\x02\x00\xc3\xa9"},
		{[]item{text("\xff\xfe")}, "\x02\x00\xff\xfe"},
		{[]item{text(nulls(255))}, "\xff\x00" + nulls(255)},
		{[]item{text(nulls(256))}, "\x00\x01" + nulls(256)},
		{[]item{text("ab"), num(7, 1), text(""), num(9, 4), text("c")}, "\x02\x00ab\x07\x00\x00\x09\x00\x00\x00\x01\x00c"},
	} {
		if s, e := packed(x.l...); s != x.want || e != api.OK {
			t.Errorf("%v: %q, %v, not %q", x.l, s, e, x.want)
		}
	}
}

func TestNumbersAtTheirEdges(t *testing.T) {
	for _, size := range sizes {
		l := []uint64{0, 1, 2, 255, 256, 65535, 65536, math.MaxUint32, math.MaxUint32 + 1, 1 << 63, math.MaxUint64 - 1, math.MaxUint64}
		for i := range 64 {
			l = append(l, 1<<i, 1<<i-1)
		}
		for _, v := range l {
			want, e := byWords(num(v, size)), api.OK
			if v > greatest(size) {
				want, e = "", api.ErrForm
			}
			if s, f := packed(num(v, size)); s != want || f != e {
				t.Errorf("%d in %d bytes: %q, %v, not %q, %v", v, size, s, f, want, e)
			}
		}
	}
}

func TestNumbersOfWrongSizes(t *testing.T) {
	for _, size := range append([]int{0}, wrongSizes...) {
		for _, v := range []uint64{0, 1, math.MaxUint64} {
			var p pack.Packer
			p.Num(v, size)
			if s, e := p.Done(); s != "" || e != api.ErrForm {
				t.Errorf("%d in %d bytes: %q, %v", v, size, s, e)
			}
		}
	}
}

func TestTextsAtTheirEdges(t *testing.T) {
	const most = api.MaxText - 2
	for _, n := range []int{0, 1, 254, 255, 256, 257, 4095, 32767, 32768, most - 1, most} {
		if s, e := packed(text(strings.Repeat("x", n))); s != byWords(text(strings.Repeat("x", n))) || e != api.OK {
			t.Errorf("a text of %d bytes: %d bytes, %v", n, len(s), e)
		}
	}
	for _, n := range []int{most + 1, api.MaxText, api.MaxText + 1, 65534, 65535, 65536, 65537, 1 << 17, 1<<24 + 5} {
		if s, e := packed(text(nulls(n))); s != "" || e != api.ErrLong {
			t.Errorf("a text of %d bytes: %d bytes, %v", n, len(s), e)
		}
	}
}

func TestAllThatGoesIn(t *testing.T) {
	for _, size := range sizes {
		var p pack.Packer
		for i := range api.MaxText / size {
			p.Num(uint64(i)&greatest(size), size)
		}
		s, e := p.Done()
		if len(s) != api.MaxText || e != api.OK {
			t.Errorf("numbers of %d bytes: %d bytes, %v", size, len(s), e)
		}
		for i := range len(s) / size {
			if s[i*size:(i+1)*size] != byWords(num(uint64(i)&greatest(size), size)) {
				t.Fatalf("numbers of %d bytes: the number %d is %q", size, i, s[i*size:(i+1)*size])
			}
		}
	}
}

func TestJustBeyondAllThatGoesIn(t *testing.T) {
	next := []item{num(0, 1), num(0, 2), num(0, 4), num(0, 8), text(""), text("a"), text("abcdefgh"), text(nulls(65535)), text(nulls(65536))}
	for room := range 12 {
		head := text(nulls(api.MaxText - 2 - room))
		for _, x := range next {
			n := x.size
			if n == 0 {
				n = 2 + len(x.s)
			}
			want, e := "", api.ErrLong
			if n <= room {
				want, e = byWords(head, x), api.OK
			}
			if s, f := packed(head, x); s != want || f != e {
				t.Errorf("%d bytes, where there is room for %d: %d bytes, %v, not %v", n, room, len(s), f, e)
			}
		}
	}
}

func TestTheFirstError(t *testing.T) {
	full := text(nulls(api.MaxText - 2))
	tooLong := text(nulls(65536))
	for i, x := range []struct {
		l []item
		e api.Errno
	}{
		{[]item{num(256, 1), tooLong}, api.ErrForm},
		{[]item{num(0, 3), tooLong}, api.ErrForm},
		{[]item{tooLong, num(256, 1)}, api.ErrLong},
		{[]item{tooLong, num(0, 3)}, api.ErrLong},
		{[]item{full, num(0, 1), num(0, 3)}, api.ErrLong}, // too much at once, not just at Done
		{[]item{full, text(""), num(256, 1)}, api.ErrLong},
		{[]item{full, num(0, 3), num(0, 1)}, api.ErrForm},
		{[]item{full, num(256, 1)}, api.ErrForm}, // both at once: the one that is named first
		{[]item{full, num(0, 9)}, api.ErrForm},
		{[]item{num(256, 1), full, full}, api.ErrForm},
		{[]item{num(1, 1), num(1, 5), num(1, 1)}, api.ErrForm}, // what is behind does not mend it
		{[]item{text("a"), tooLong, text("b")}, api.ErrLong},
		{[]item{full, num(0, 8), num(0, 0)}, api.ErrLong},
		{[]item{num(0, 1), full, text("")}, api.ErrLong},
	} {
		if s, e := packed(x.l...); s != "" || e != x.e {
			t.Errorf("%d: %d bytes, %v, not %v", i, len(s), e, x.e)
		}
	}
}

func TestDoneIsToldAgain(t *testing.T) {
	var p pack.Packer
	var l []item
	r := rand.New(rand.NewSource(1))
	for range 200 {
		for range 3 {
			if s, e := p.Done(); s != byWords(l...) || e != api.OK {
				t.Fatalf("%d items: %q, %v", len(l), s, e)
			}
		}
		x := some(r)
		put(&p, x)
		l = append(l, x)
	}
	p.Num(256, 1)
	for range 20 {
		if s, e := p.Done(); s != "" || e != api.ErrForm {
			t.Fatalf("%q, %v", s, e)
		}
		put(&p, some(r), text(nulls(65536)))
	}
}

func TestCopiesGoOnApart(t *testing.T) {
	var p pack.Packer
	put(&p, num(1, 1), text("both"))
	q := p
	put(&p, num(2, 1), text("one"))
	put(&q, num(3, 2), text("other"))
	bad := q
	bad.Num(0, 3)
	put(&q, num(4, 4))
	if s, e := p.Done(); s != byWords(num(1, 1), text("both"), num(2, 1), text("one")) || e != api.OK {
		t.Errorf("%q, %v", s, e)
	}
	if s, e := q.Done(); s != byWords(num(1, 1), text("both"), num(3, 2), text("other"), num(4, 4)) || e != api.OK {
		t.Errorf("%q, %v", s, e)
	}
	if s, e := bad.Done(); s != "" || e != api.ErrForm {
		t.Errorf("%q, %v", s, e)
	}
}

func TestPackerOfNil(t *testing.T) {
	var p *pack.Packer
	for range 2 {
		if s, e := p.Done(); s != "" || e != api.ErrArg {
			t.Errorf("%q, %v", s, e)
		}
		put(p, num(1, 1), num(1, 3), num(256, 1), text("a"), text(nulls(65536)))
	}
}

// Scripts of all kinds of items, right and wrong, against what the words say of each.
func TestPackedByWords(t *testing.T) {
	r := rand.New(rand.NewSource(2))
	for range 3000 {
		var p pack.Packer
		want, e := "", api.OK
		for range r.Intn(30) {
			x := some(r)
			switch r.Intn(40) {
			case 0:
				x = num(r.Uint64()>>r.Intn(64), wrongSizes[r.Intn(len(wrongSizes))])
			case 1:
				x = num(r.Uint64()>>r.Intn(64), sizes[r.Intn(4)])
			case 2:
				x = text(nulls(r.Intn(70000)))
			}
			put(&p, x)
			if e != api.OK {
				continue
			}
			switch {
			case x.size != 0 && !slices.Contains(sizes, x.size) || x.size > 0 && x.v > greatest(x.size):
				e = api.ErrForm
			case len(x.s) > 65535 || len(want+byWords(x)) > api.MaxText:
				e = api.ErrLong
			default:
				want += byWords(x)
			}
		}
		if e != api.OK {
			want = ""
		}
		if s, f := p.Done(); s != want || f != e {
			t.Fatalf("%d bytes, %v, not %d, %v", len(s), f, len(want), e)
		}
	}
}

// P8.2

// spoilt tells whether an opener tells 0, empty, false of all calls from now on.
func spoilt(o *pack.Opener) bool {
	for range 2 {
		for _, size := range append([]int{0}, append(sizes, wrongSizes...)...) {
			if o.Num(size) != 0 || o.Done() {
				return false
			}
		}
		for _, most := range []int{0, 1, 65535, -1, math.MaxInt, math.MinInt} {
			if o.Text(most) != "" || o.Done() {
				return false
			}
		}
	}
	return true
}

func TestOpenedByCases(t *testing.T) {
	o := pack.Open("\x05\x00\x01\x00a\xff\x04\x03\x02\x01\x08\x07\x06\x05\x04\x03\x02\x81\x00\x00")
	if o.Done() {
		t.Error("Done at the beginning")
	}
	for _, x := range []struct {
		size int
		want uint64
	}{{2, 5}, {0, 0}, {1, 255}, {4, 0x01020304}, {8, 0x8102030405060708}} {
		if x.size == 0 {
			if s := o.Text(1); s != "a" {
				t.Errorf("Text(1) is %q", s)
			}
		} else if v := o.Num(x.size); v != x.want {
			t.Errorf("Num(%d) is %x, not %x", x.size, v, x.want)
		}
		if o.Done() {
			t.Error("Done ahead of the end")
		}
	}
	if s := o.Text(0); s != "" || !o.Done() || !o.Done() {
		t.Errorf("Text(0) is %q, Done %v", s, o.Done())
	}
}

func TestOpenedOfNothing(t *testing.T) {
	if o := pack.Open(""); o == nil || !o.Done() || !o.Done() {
		t.Error("nothing is not at its end")
	}
	for _, size := range append([]int{0}, append(sizes, wrongSizes...)...) {
		if o := pack.Open(""); o.Num(size) != 0 || !spoilt(o) {
			t.Errorf("Num(%d) of nothing", size)
		}
	}
	for _, most := range []int{0, 1, 65535, -1, math.MaxInt, math.MinInt} {
		if o := pack.Open(""); o.Text(most) != "" || !spoilt(o) {
			t.Errorf("Text(%d) of nothing", most)
		}
	}
}

func TestNumbersThatAreNotAllThere(t *testing.T) {
	for _, size := range sizes {
		for n := range 20 {
			s := strings.Repeat("\x01", n)
			o := pack.Open(s)
			if n < size {
				if v := o.Num(size); v != 0 || !spoilt(o) {
					t.Errorf("Num(%d) of %d bytes is %x", size, n, v)
				}
				continue
			}
			if v := o.Num(size); v != 0x0101010101010101&greatest(size) || o.Done() != (n == size) {
				t.Errorf("Num(%d) of %d bytes is %x", size, n, v)
			}
		}
	}
}

func TestNumbersOfAnotherSize(t *testing.T) {
	for _, size := range append([]int{0}, wrongSizes...) {
		for _, n := range []int{1, 3, 5, 16, 300} {
			if o := pack.Open(strings.Repeat("\x01", n)); o.Num(size) != 0 || !spoilt(o) {
				t.Errorf("Num(%d) of %d bytes", size, n)
			}
		}
		o := pack.Open("\x01")
		if o.Num(1) != 1 || !o.Done() || o.Num(size) != 0 || !spoilt(o) { // also at the end
			t.Errorf("Num(%d) at the end", size)
		}
	}
}

func TestTextsOfAllLengths(t *testing.T) {
	r := rand.New(rand.NewSource(3))
	for _, n := range []int{0, 1, 2, 3, 255, 256, 257, 32768, 59998, 59999, 60001, 65534, 65535} {
		want := random(r, n)
		b := byWords(text(want))
		for _, most := range []int{n, n + 1, n + 2, 65535, 65536, math.MaxInt} {
			if most < n {
				continue
			}
			if o := pack.Open(b); o.Text(most) != want || !o.Done() {
				t.Errorf("Text(%d) of a text of %d bytes", most, n)
			}
			if o := pack.Open(b + "\x07"); o.Text(most) != want || o.Done() || o.Num(1) != 7 || !o.Done() {
				t.Errorf("Text(%d) of a text of %d bytes and a number", most, n)
			}
		}
		for _, most := range []int{n - 1, n/2 - 1, -1, -2, n - 65536, math.MinInt} {
			if o := pack.Open(b); o.Text(most) != "" || !spoilt(o) {
				t.Errorf("Text(%d) of a text of %d bytes", most, n)
			}
		}
	}
}

func TestTextsThatAreNotAllThere(t *testing.T) {
	for _, n := range []int{0, 1, 2, 255, 256, 300} {
		b := byWords(text(strings.Repeat("x", n)))
		for cut := range len(b) {
			if o := pack.Open(b[:cut]); o.Text(65535) != "" || !spoilt(o) {
				t.Errorf("%d bytes of a text of %d bytes", cut, n)
			}
		}
	}
	if o := pack.Open("\xff\xff" + nulls(65534)); o.Text(65535) != "" || !spoilt(o) {
		t.Error("a text of 65535 bytes, but one")
	}
}

func TestWhatIsLeftOverIsNotDone(t *testing.T) {
	b := byWords(num(7, 4), text("abc"), num(9, 2))
	for n := range 20 {
		o := pack.Open(b + nulls(n))
		if o.Num(4) != 7 || o.Text(3) != "abc" || o.Num(2) != 9 || o.Done() != (n == 0) {
			t.Errorf("with %d bytes left over", n)
		}
	}
}

func TestLongOnesAreOpened(t *testing.T) {
	o := pack.Open(strings.Repeat("\x01\x02\x03\x04", 100000)) // more than can be packed
	for range 100000 {
		if o.Done() || o.Num(4) != 0x04030201 {
			t.Fatal("a number of 4 bytes")
		}
	}
	if !o.Done() {
		t.Error("not at the end")
	}
}

func TestOpenersGoApart(t *testing.T) {
	b := byWords(num(1, 2), text("ab"), num(3, 2))
	a, c := pack.Open(b), pack.Open(b)
	if a.Num(2) != 1 || a.Text(2) != "ab" || c.Num(1) != 1 || c.Num(3) != 0 {
		t.Error("side by side")
	}
	if a.Num(2) != 3 || !a.Done() || !spoilt(c) || !a.Done() {
		t.Error("one spoils the other")
	}
}

func TestOpenerOfNil(t *testing.T) {
	var o *pack.Opener
	if !spoilt(o) {
		t.Error("nil tells something")
	}
}

// Any bytes, by any calls, against what the words say of each.
func TestOpenedByWords(t *testing.T) {
	r := rand.New(rand.NewSource(4))
	for range 20000 {
		rest := []byte(random(r, r.Intn(40)))
		for i := range rest { // lengths that may fit
			if r.Intn(2) == 0 {
				rest[i] = byte(r.Intn(4))
			}
		}
		o, bad := pack.Open(string(rest)), false
		for range r.Intn(12) {
			if r.Intn(2) == 0 {
				most, want := r.Intn(6)-1, ""
				n := 1 << 16
				if len(rest) >= 2 {
					n = int(binary.LittleEndian.Uint16(rest))
				}
				bad = bad || n > most || 2+n > len(rest)
				if !bad {
					want, rest = string(rest[2:2+n]), rest[2+n:]
				}
				if s := o.Text(most); s != want {
					t.Fatalf("Text(%d) is %q, not %q", most, s, want)
				}
			} else {
				size, want := []int{1, 1, 2, 2, 4, 8, 3}[r.Intn(7)], uint64(0)
				bad = bad || size == 3 || size > len(rest)
				if !bad {
					want, rest = binary.LittleEndian.Uint64(append(rest[:size:size], nulls(8)...)), rest[size:]
				}
				if v := o.Num(size); v != want {
					t.Fatalf("Num(%d) is %x, not %x", size, v, want)
				}
			}
			if o.Done() != (!bad && len(rest) == 0) {
				t.Fatalf("Done is %v with %d bytes left, spoilt %v", o.Done(), len(rest), bad)
			}
		}
	}
}

// P8.3

func TestOpenedAsItWasPacked(t *testing.T) {
	r := rand.New(rand.NewSource(5))
	for range 3000 {
		l := make([]item, r.Intn(50))
		for i := range l {
			l[i] = some(r)
		}
		s, e := packed(l...)
		if e != api.OK {
			t.Fatal(e)
		}
		o := pack.Open(s)
		for i, x := range l {
			if o.Done() {
				t.Fatalf("Done at item %d of %d", i, len(l))
			}
			if x.size == 0 {
				if g := o.Text(len(x.s)); g != x.s {
					t.Fatalf("%q was packed, %q is opened", x.s, g)
				}
			} else if g := o.Num(x.size); g != x.v {
				t.Fatalf("%d was packed in %d bytes, %d is opened", x.v, x.size, g)
			}
		}
		if !o.Done() {
			t.Fatal("not at the end")
		}
	}
}

func TestAllNumbersOf2BytesAreOpened(t *testing.T) {
	for v := range uint64(1 << 16) {
		s, e := packed(num(v, 2), num(v<<16, 4), num(v<<48, 8), text("end"))
		o := pack.Open(s)
		if e != api.OK || o.Num(2) != v || o.Num(4) != v<<16 || o.Num(8) != v<<48 || o.Text(3) != "end" || !o.Done() {
			t.Fatalf("%d is %q, %v", v, s, e)
		}
	}
}
