package journal_test

import (
	"encoding/binary"
	"fmt"
	"hash/crc32"
	"math"
	"math/rand"
	"slices"
	"strings"
	"testing"
	"unsafe"

	"annuity/api"
	"annuity/disk"
	"annuity/journal"
)

const (
	piece   = 244
	mostNum = 1<<31 + 1000000
)

var order = binary.LittleEndian

// nulls is n bytes 00.
func nulls(n int) string { return strings.Repeat("\x00", n) }

// random is n bytes of any kind.
func random(r *rand.Rand, n int) string {
	b := make([]byte, n)
	r.Read(b)
	return string(b)
}

// sized is a text whose record has so many sectors.
func sized(r *rand.Rand, sectors int) string { return random(r, sectors*piece-8-r.Intn(236)) }

// record is a record's sectors as the words of layer 10 have them.
func record(num uint32, s string) []string {
	b := order.AppendUint32(nil, uint32(len(s)))
	b = append(b, s...)
	b = order.AppendUint32(b, crc32.ChecksumIEEE(b))
	b = append(b, make([]byte, (piece-len(b)%piece)%piece)...)
	l := make([]string, len(b)/piece)
	for i := range l {
		x := order.AppendUint32(nil, num)
		x = order.AppendUint16(x, uint16(i))
		x = order.AppendUint16(x, uint16(len(l)))
		x = append(x, b[i*piece:][:piece]...)
		l[i] = string(order.AppendUint32(x, num))
	}
	return l
}

// head is the head of an area.
func head(area int, num uint32) string { return record(num, "J"+string([]byte{byte(area)}))[0] }

// number is a whole sector's number.
func number(b string) uint32 {
	if b[:4] != b[252:] {
		return 0
	}
	return order.Uint32([]byte(b))
}

// at is the text of the record of that number with which sectors begin, and how many it has.
func at(l []string, num uint32) (string, int, bool) {
	if len(l) == 0 || num == 0 {
		return "", 0, false
	}
	n, all := int(order.Uint16([]byte(l[0][6:]))), ""
	if n == 0 || n > len(l) {
		return "", 0, false
	}
	for _, b := range l[:n] {
		all += b[8:252]
	}
	length := order.Uint32([]byte(all))
	if length > api.MaxText || int(length)+4 > len(all) {
		return "", 0, false
	}
	s := all[4:][:length]
	return s, n, slices.Equal(record(num, s), l[:n])
}

// half is how many sectors an area has, and first is where it begins.
func half(l []string) int            { return (len(l) - 2) / 2 }
func first(l []string, area int) int { return 2 + area*half(l) }

// told is what a journal tells.
type told struct {
	base    string
	records []string
	next    uint32
	left    int
}

// journalOf is what stands on a disk as the chapter's words have it, and in which area.
func journalOf(l []string) (told, int, bool) {
	best, area, ok, most := told{}, 0, false, uint32(0)
	for a := range 2 {
		num := number(l[a])
		if l[a] != head(a, num) || num == 0 || num > mostNum || num <= most {
			continue
		}
		rest, x := l[first(l, a):][:half(l)], told{next: num}
		var texts []string
		for {
			s, n, ok := at(rest, x.next)
			if !ok {
				break
			}
			texts, rest = append(texts, s), rest[n:]
			x.next++
		}
		if len(texts) > 0 {
			x.base, x.records, x.left = texts[0], texts[1:], len(rest)
			best, area, ok, most = x, a, true, num
		}
	}
	return best, area, ok
}

// empty is a disk of n sectors of bytes 00.
func empty(n int) []string {
	l := make([]string, n)
	for i := range l {
		l[i] = nulls(api.Sector)
	}
	return l
}

// laid is a disk on which these sectors stand.
func laid(t *testing.T, l []string) *disk.Disk {
	t.Helper()
	d, e := disk.New(len(l))
	if e != api.OK {
		t.Fatalf("disk.New(%d): %v", len(l), e)
	}
	lay(t, d, l)
	return d
}

// lay writes these sectors over those of a disk.
func lay(t *testing.T, d *disk.Disk, l []string) {
	t.Helper()
	for i, b := range l {
		if e := d.Write(i, b); e != api.OK {
			t.Fatalf("Write(%d): %v", i, e)
		}
	}
}

// stands holds what is on a disk.
func stands(t *testing.T, d *disk.Disk, want []string) {
	t.Helper()
	for i, b := range want {
		if s, e := d.Read(i); s != b || e != api.OK {
			t.Fatalf("sector %d is %q, %v, not %q", i, s, e, b)
		}
	}
}

// tells holds what a journal tells.
func tells(t *testing.T, j *journal.Journal, want told) {
	t.Helper()
	g := told{j.Base(), j.Records(), j.Next(), j.Left()}
	if !same(g, want) {
		t.Fatalf("it tells %s, not %s", g, want)
	}
}

func same(a, b told) bool {
	return a.base == b.base && slices.Equal(a.records, b.records) && a.next == b.next && a.left == b.left
}

func (x told) String() string {
	return fmt.Sprintf("base %.20q, records %.20q, next %d, left %d", x.base, x.records, x.next, x.left)
}

// formats is Format that must be OK.
func formats(t *testing.T, d *disk.Disk, base string) *journal.Journal {
	t.Helper()
	j, e := journal.Format(d, base)
	if j == nil || e != api.OK {
		t.Fatalf("Format(%d sectors, %d bytes): %v", d.Size(), len(base), e)
	}
	return j
}

func formatsNot(t *testing.T, d *disk.Disk, base string, want api.Errno) {
	t.Helper()
	if j, e := journal.Format(d, base); j != nil || e != want {
		t.Fatalf("Format(%d sectors, %d bytes): %v, %v, not %v", d.Size(), len(base), j, e, want)
	}
}

// opens is Open that must be OK and tell that.
func opens(t *testing.T, d *disk.Disk, want told) *journal.Journal {
	t.Helper()
	j, e := journal.Open(d)
	if j == nil || e != api.OK {
		t.Fatalf("Open(%d sectors): %v", d.Size(), e)
	}
	tells(t, j, want)
	return j
}

func opensNot(t *testing.T, d *disk.Disk, want api.Errno) {
	t.Helper()
	if j, e := journal.Open(d); j != nil || e != want {
		t.Fatalf("Open(%d sectors): %v, %v, not %v", d.Size(), j, e, want)
	}
}

// does is an Append or a Save that must answer that.
func does(t *testing.T, j *journal.Journal, x step, want api.Errno) {
	t.Helper()
	if e := do(j, x); e != want {
		t.Fatalf("%s: %v, not %v", x, e, want)
	}
}

// step is an Append, or a Save.
type step struct {
	save bool
	s    string
}

func (x step) String() string {
	if x.save {
		return fmt.Sprintf("Save(%.20q)", x.s)
	}
	return fmt.Sprintf("Append(%.20q)", x.s)
}

func do(j *journal.Journal, x step) api.Errno {
	if x.save {
		return j.Save(x.s)
	}
	return j.Append(x.s)
}

// write is one of a sector.
type write struct {
	at int
	s  string
}

// backward is the writes of sectors from a place on, the last one first.
func backward(from int, l []string) []write {
	var w []write
	for i := len(l) - 1; i >= 0; i-- {
		w = append(w, write{from + i, l[i]})
	}
	return w
}

// formatting is the writes of Format.
func formatting(l []string, base string) []write {
	most := uint32(0)
	for _, b := range l {
		most = max(most, number(b))
	}
	return append(backward(2, record(most+1, base)), write{0, head(0, most+1)})
}

// plan is the writes of a step, as the chapter's words have them, or its error.
func plan(l []string, x step) ([]write, api.Errno) {
	was, area, _ := journalOf(l)
	n := (len(x.s) + 8 + piece - 1) / piece
	switch {
	case len(x.s) > api.MaxText:
		return nil, api.ErrLong
	case x.save && n > half(l), !x.save && n > was.left, was.next > mostNum:
		return nil, api.ErrFull
	case x.save:
		other := 1 - area
		return append(backward(first(l, other), record(was.next, x.s)), write{other, head(other, was.next)}), api.OK
	}
	return backward(first(l, area+1)-was.left, record(was.next, x.s)), api.OK
}

// behind is what is told behind a step that is OK.
func behind(was told, x step, size int) told {
	n := (len(x.s) + 8 + piece - 1) / piece
	if x.save {
		return told{x.s, nil, was.next + 1, (size-2)/2 - n}
	}
	return told{was.base, append(slices.Clone(was.records), x.s), was.next + 1, was.left - n}
}

// written is a disk on which all writes came.
func written(l []string, w ...write) []string {
	l = slices.Clone(l)
	for _, x := range w {
		l[x.at] = x.s
	}
	return l
}

// crashed is a disk on which n writes came, and a part of the next one.
func crashed(l []string, w []write, n, part int) []string {
	l = written(l, w[:n]...)
	l[w[n].at] = w[n].s[:part] + l[w[n].at][part:]
	return l
}

// arm is Arm that must be OK.
func arm(t *testing.T, d *disk.Disk, n, part int) {
	t.Helper()
	if e := d.Arm(n, part); e != api.OK {
		t.Fatalf("Arm(%d, %d): %v", n, part, e)
	}
}

// parts are of a write that is cut: where a number, a place, a piece begins or ends, and some between.
var parts = []int{0, 1, 2, 3, 4, 5, 6, 7, 8, 9, 11, 12, 13, 14, 15, 16, 17, 18, 100, 200, 251, 252, 253, 254, 255, 256}

// noDisks have no size that fits.
var noDisks = []int{1, 2, 3, 4, 5, 6, 7, 9, 11, 13, 255, 257, 1001, 4093, 4095}

// P12.1

func TestFormatOfSizes(t *testing.T) {
	for _, s := range []string{"", "a", strings.Repeat("x", 1000), strings.Repeat("x", api.MaxText+1)} {
		formatsNot(t, nil, s, api.ErrArg)
		for _, n := range noDisks {
			d := laid(t, empty(n))
			formatsNot(t, d, s, api.ErrArg)
			stands(t, d, empty(n))
		}
	}
	for _, n := range []int{8, 10, 12, 14, 254, 256, 258, 4094, 4096} {
		j := formats(t, laid(t, empty(n)), "a")
		tells(t, j, told{"a", nil, 2, (n-2)/2 - 1})
	}
}

func TestFormatOfWhatGoesIntoAnArea(t *testing.T) {
	long := strings.Repeat("x", api.MaxText+300)
	for _, x := range []struct {
		n, length int
		e         api.Errno
	}{
		{8, 0, api.OK}, {8, 724, api.OK}, {8, 725, api.ErrFull}, {8, api.MaxText, api.ErrFull},
		{8, api.MaxText + 1, api.ErrLong}, {10, 968, api.OK}, {10, 969, api.ErrFull}, {12, 1212, api.OK}, {12, 1213, api.ErrFull},
		{492, 59772, api.OK}, {492, 59773, api.ErrFull}, {492, api.MaxText, api.ErrFull}, {492, api.MaxText + 1, api.ErrLong},
		{494, api.MaxText, api.OK}, {494, api.MaxText + 1, api.ErrLong}, {4096, api.MaxText, api.OK}, {4096, api.MaxText + 1, api.ErrLong},
		{4096, api.MaxText + 16, api.ErrLong}, {4096, api.MaxText + 300, api.ErrLong}, {8, api.MaxText + 300, api.ErrLong},
	} {
		l := empty(x.n)
		l[1], l[x.n-1] = head(1, 7), record(9, "old")[0]
		d := laid(t, l)
		s := long[:x.length]
		if x.e != api.OK {
			formatsNot(t, d, s, x.e)
			stands(t, d, l)
			continue
		}
		w := formatting(l, s)
		tells(t, formats(t, d, s), told{s, nil, 11, (x.n-2)/2 - len(w) + 1})
		stands(t, d, written(l, w...))
	}
}

// Each sector that is neither the base's nor the head stays as it was.
func TestFormatWritesItsRecordsAlone(t *testing.T) {
	r := rand.New(rand.NewSource(1))
	for range 200 {
		l := make([]string, 8+2*r.Intn(20))
		for i := range l {
			l[i] = record(uint32(r.Intn(1<<r.Intn(31))), random(r, r.Intn(237)))[0]
			if r.Intn(3) == 0 {
				l[i] = random(r, api.Sector)
			}
			if number(l[i]) > 1<<31 {
				l[i] = nulls(api.Sector)
			}
		}
		d, s := laid(t, l), sized(r, 1+r.Intn(half(l)))
		w := formatting(l, s)
		j := formats(t, d, s)
		want := told{s, nil, number(w[0].s) + 1, half(l) - len(w) + 1}
		tells(t, j, want)
		if d.Writes() != len(l)+len(w) {
			t.Fatalf("it was written %d times, not %d", d.Writes()-len(l), len(w))
		}
		stands(t, d, written(l, w...))
		opens(t, d, want)
	}
}

func TestFormatGoesOnFromTheGreatestNumber(t *testing.T) {
	for _, n := range []uint32{0, 1, 2, 254, 255, 256, 65535, 1<<24 - 1, 1<<31 - 1, 1 << 31, 1<<31 + 1, 1<<31 + 1000000, math.MaxUint32} {
		for i := range 8 { // the heads, both areas' first and last ones
			l := empty(8)
			for k := range l {
				l[k] = record(n/2+uint32(k)/8, "some older one")[0]
			}
			l[i] = record(n, "the greatest one")[0]
			d := laid(t, l)
			if n > 1<<31 {
				formatsNot(t, d, "a", api.ErrFull)
				stands(t, d, l)
				continue
			}
			tells(t, formats(t, d, "a"), told{"a", nil, n + 2, 2})
			stands(t, d, written(l, write{2, record(n+1, "a")[0]}, write{0, head(0, n+1)}))
			opens(t, d, told{"a", nil, n + 2, 2})
		}
	}
}

// A sector counts if it is whole, whatever stands in it; one that is not does not.
func TestFormatOfNumbersThatDoNotCount(t *testing.T) {
	l := empty(8)
	l[1] = head(1, 77)[:255] + "\x01"
	l[3] = "\x00" + strings.Repeat("\xff", 255)
	l[4] = record(math.MaxUint32, "a")[0][:252] + "\xff\xff\xff\xfe"
	l[5] = "\x05\x00\x00\x00" + strings.Repeat("\xff", 248) + "\x05\x00\x00\x00"
	l[6] = record(6, "a")[0][:100] + record(200, "b")[0][100:]
	l[7] = "\x04\x03\x02\x01" + nulls(248) + "\x01\x02\x03\x04"
	d := laid(t, l)
	tells(t, formats(t, d, "a"), told{"a", nil, 7, 2})
	stands(t, d, written(l, write{2, record(6, "a")[0]}, write{0, head(0, 6)}))
}

func TestFormatErrorsInOrder(t *testing.T) {
	long := strings.Repeat("x", api.MaxText+1)
	dead := func(n int) *disk.Disk {
		l := empty(n)
		l[0] = record(math.MaxUint32, "too great")[0]
		d := laid(t, l)
		arm(t, d, 0, 0)
		if e := d.Write(0, l[0]); e != api.ErrDead {
			t.Fatal(e)
		}
		return d
	}
	formatsNot(t, dead(6), long, api.ErrArg)
	formatsNot(t, dead(9), "a", api.ErrArg)
	formatsNot(t, dead(8), long, api.ErrLong)
	formatsNot(t, dead(8), long[:725], api.ErrFull)
	d := dead(8)
	formatsNot(t, d, long[:724], api.ErrDead)
	d.Start()
	formatsNot(t, d, long[:724], api.ErrFull)
	if d.Writes() != 8 {
		t.Errorf("it was written %d times", d.Writes()-8)
	}
}

func TestFormatWritesInOrder(t *testing.T) {
	r := rand.New(rand.NewSource(2))
	for _, n := range []int{8, 14} {
		for sectors := 1; sectors <= (n-2)/2; sectors++ {
			old := laid(t, empty(n))
			j := formats(t, old, sized(r, 2))
			does(t, j, step{false, "x"}, api.OK)
			does(t, j, step{true, sized(r, 3)}, api.OK)
			l := read(t, old)
			s := sized(r, sectors)
			w := formatting(l, s)
			for k := range w {
				for _, part := range parts {
					d := laid(t, l)
					arm(t, d, k, part)
					formatsNot(t, d, s, api.ErrDead)
					d.Start()
					stands(t, d, crashed(l, w, k, part))
				}
			}
			d := laid(t, l)
			arm(t, d, len(w), 0) // just enough
			formats(t, d, s)
		}
	}
}

// read is all that stands on a disk.
func read(t *testing.T, d *disk.Disk) []string {
	t.Helper()
	l := make([]string, d.Size())
	for i := range l {
		s, e := d.Read(i)
		if e != api.OK {
			t.Fatalf("Read(%d): %v", i, e)
		}
		l[i] = s
	}
	return l
}

// P12.2

func TestOpenOfSizes(t *testing.T) {
	opensNot(t, nil, api.ErrArg)
	for _, n := range noDisks {
		l := empty(n)
		l[0] = head(0, 1)
		for i := range l[1:] {
			l[1+i] = record(1, "a")[0]
		}
		opensNot(t, laid(t, l), api.ErrArg)
		d := laid(t, l)
		arm(t, d, 0, 0)
		d.Write(0, l[0])
		opensNot(t, d, api.ErrArg) // it is named first
	}
	for _, n := range []int{8, 10, 256, 4096} {
		l := empty(n)
		opensNot(t, laid(t, l), api.ErrForm)
		l[0], l[2] = head(0, 1), record(1, "a")[0]
		opens(t, laid(t, l), told{"a", nil, 2, (n-2)/2 - 1})
	}
}

func TestOpenOfADeadDisk(t *testing.T) {
	for _, formatted := range []bool{false, true} {
		d, want := laid(t, empty(8)), api.ErrForm
		if formatted {
			formats(t, d, "a")
			want = api.OK
		}
		arm(t, d, 0, 0)
		d.Write(7, nulls(256))
		opensNot(t, d, api.ErrDead)
		d.Start()
		if _, e := journal.Open(d); e != want {
			t.Errorf("Open: %v, not %v", e, want)
		}
	}
}

// put is a text at a place, as the record of that number.
type put struct {
	at  int
	num uint32
	s   string
}

// disks of 16 sectors: area 0 from 2 to 8, area 1 from 9 to 15.
func disk16(l ...put) []string {
	all := empty(16)
	for _, x := range l {
		copy(all[x.at:], record(x.num, x.s))
	}
	return all
}

func TestOpenByCases(t *testing.T) {
	two, three := strings.Repeat("two ", 80), strings.Repeat("three ", 100)
	for _, x := range []struct {
		what string
		l    []put
		want told // without a next it is ErrForm
	}{
		{"area 0", []put{{0, 5, "J\x00"}, {2, 5, "a"}}, told{"a", nil, 6, 6}},
		{"area 1", []put{{1, 5, "J\x01"}, {9, 5, "a"}}, told{"a", nil, 6, 6}},
		{"an empty base", []put{{1, 5, "J\x01"}, {9, 5, ""}}, told{"", nil, 6, 6}},
		{"records", []put{{0, 5, "J\x00"}, {2, 5, "a"}, {3, 6, "b"}, {4, 7, ""}, {5, 8, "d"}}, told{"a", []string{"b", "", "d"}, 9, 3}},
		{"long ones", []put{{1, 5, "J\x01"}, {9, 5, two}, {11, 6, three}, {14, 7, two}}, told{two, []string{three, two}, 8, 0}},
		{"a full area", []put{{0, 1, "J\x00"}, {2, 1, three}, {5, 2, two}, {7, 3, "a"}, {8, 4, "b"}, {9, 5, "c"}}, told{three, []string{two, "a", "b"}, 5, 0}},
		{"a record across the area's end", []put{{0, 1, "J\x00"}, {2, 1, three}, {5, 2, three}, {8, 3, two}}, told{three, []string{three}, 3, 1}},
		{"a gap", []put{{0, 1, "J\x00"}, {2, 1, "a"}, {4, 2, "b"}}, told{"a", nil, 2, 6}},
		{"a number left out", []put{{0, 1, "J\x00"}, {2, 1, "a"}, {3, 3, "b"}, {4, 2, "c"}}, told{"a", nil, 2, 6}},
		{"the same number", []put{{0, 1, "J\x00"}, {2, 1, "a"}, {3, 1, "b"}, {4, 2, "c"}}, told{"a", nil, 2, 6}},
		{"an older one behind", []put{{0, 7, "J\x00"}, {2, 7, "a"}, {3, 8, "b"}, {4, 5, "c"}}, told{"a", []string{"b"}, 9, 5}},

		{"no head", []put{{2, 5, "a"}, {9, 6, "b"}}, told{}},
		{"a head alone", []put{{0, 5, "J\x00"}, {1, 6, "J\x01"}}, told{}},
		{"a base of a smaller number", []put{{0, 5, "J\x00"}, {2, 4, "a"}}, told{}},
		{"a base of a greater number", []put{{0, 5, "J\x00"}, {2, 6, "a"}}, told{}},
		{"a base that begins later", []put{{0, 5, "J\x00"}, {3, 5, "a"}}, told{}},
		{"a base in the other area", []put{{0, 5, "J\x00"}, {9, 5, "a"}}, told{}},
		{"heads changed over", []put{{0, 5, "J\x01"}, {1, 5, "J\x00"}, {2, 5, "a"}, {9, 5, "b"}}, told{}},
		{"a small letter", []put{{0, 5, "j\x00"}, {2, 5, "a"}}, told{}},
		{"a letter for the byte", []put{{0, 5, "J0"}, {2, 5, "a"}}, told{}},
		{"no byte", []put{{0, 5, "J"}, {2, 5, "a"}}, told{}},
		{"nothing", []put{{0, 5, ""}, {2, 5, "a"}}, told{}},
		{"a byte more", []put{{0, 5, "J\x00\x00"}, {2, 5, "a"}}, told{}},
		{"area 2", []put{{1, 5, "J\x02"}, {9, 5, "a"}}, told{}},
		{"a base across the area's end", []put{{0, 5, "J\x00"}, {2, 5, strings.Repeat("x", 8*piece-8)}}, told{}},
		{"a base across the disk's end", []put{{1, 5, "J\x01"}, {9, 5, strings.Repeat("x", 8*piece-8)}}, told{}},

		{"the greater number in area 0", []put{{0, 7, "J\x00"}, {1, 5, "J\x01"}, {2, 7, "a"}, {9, 5, "b"}, {10, 6, "c"}}, told{"a", nil, 8, 6}},
		{"the greater number in area 1", []put{{0, 5, "J\x00"}, {1, 7, "J\x01"}, {2, 5, "a"}, {3, 6, "c"}, {9, 7, "b"}}, told{"b", nil, 8, 6}},
		{"more records do not matter", []put{{0, 5, "J\x00"}, {1, 6, "J\x01"}, {2, 5, "a"}, {3, 6, "c"}, {4, 7, "d"}, {5, 8, "e"}, {9, 6, "b"}}, told{"b", nil, 7, 6}},
		{"of one number area 0's", []put{{0, 5, "J\x00"}, {1, 5, "J\x01"}, {2, 5, "a"}, {9, 5, "b"}, {10, 6, "c"}}, told{"a", nil, 6, 6}},
		{"the greater one without a base", []put{{0, 7, "J\x00"}, {1, 5, "J\x01"}, {2, 6, "a"}, {9, 5, "b"}, {10, 6, "c"}}, told{"b", []string{"c"}, 7, 5}},
		{"the other greater one without a base", []put{{0, 5, "J\x00"}, {1, 9, "J\x01"}, {2, 5, "a"}, {9, 5, "b"}}, told{"a", nil, 6, 6}},
		{"of one number without a base", []put{{0, 5, "J\x00"}, {1, 5, "J\x01"}, {2, 4, "a"}, {9, 5, "b"}}, told{"b", nil, 6, 6}},
		{"as numbers, not as bytes", []put{{0, 0x0100, "J\x00"}, {1, 0xff, "J\x01"}, {2, 0x0100, "a"}, {9, 0xff, "b"}}, told{"a", nil, 0x0101, 6}},
		{"beyond 2 to the 31", []put{{0, 1<<31 + 5, "J\x00"}, {1, 1<<31 - 5, "J\x01"}, {2, 1<<31 + 5, "a"}, {9, 1<<31 - 5, "b"}}, told{"a", nil, 1<<31 + 6, 6}},

		{"the greatest head", []put{{0, mostNum, "J\x00"}, {2, mostNum, "a"}}, told{"a", nil, mostNum + 1, 6}},
		{"records of greater numbers", []put{{1, mostNum, "J\x01"}, {9, mostNum, "a"}, {10, mostNum + 1, "b"}}, told{"a", []string{"b"}, mostNum + 2, 5}},
		{"too great a head", []put{{0, mostNum + 1, "J\x00"}, {2, mostNum + 1, "a"}}, told{}},
		{"too great a head and another one", []put{{0, 5, "J\x00"}, {1, mostNum + 1, "J\x01"}, {2, 5, "b"}, {9, mostNum + 1, "a"}}, told{"b", nil, 6, 6}},
		{"the greatest number of all", []put{{0, math.MaxUint32, "J\x00"}, {1, 3, "J\x01"}, {2, math.MaxUint32, "b"}, {9, 3, "a"}}, told{"a", nil, 4, 6}},
	} {
		l := disk16(x.l...)
		d := laid(t, l)
		if got, _, ok := journalOf(l); !same(got, x.want) || ok != (x.want.next != 0) {
			t.Fatalf("%s: these tests' own words tell %s", x.what, got)
		}
		j, e := journal.Open(d)
		if x.want.next == 0 {
			if j != nil || e != api.ErrForm {
				t.Errorf("%s: %v, %v", x.what, j, e)
			}
			continue
		}
		if e != api.OK {
			t.Errorf("%s: %v", x.what, e)
			continue
		}
		if g := (told{j.Base(), j.Records(), j.Next(), j.Left()}); !same(g, x.want) {
			t.Errorf("%s: %s, not %s", x.what, g, x.want)
		}
	}
}

// Each byte of a head, of the base and of a record matters.
func TestOpenWithAByteChanged(t *testing.T) {
	l := disk16(put{0, 5, "J\x00"}, put{1, 4, "J\x01"}, put{2, 5, "new"}, put{3, 6, strings.Repeat("x", 300)}, put{5, 7, "y"}, put{9, 4, "old"}, put{10, 5, "older"})
	changed := func(i, at int) *disk.Disk {
		b := []byte(l[i])
		b[at] ^= 1 << (at % 8)
		return laid(t, written(l, write{i, string(b)}))
	}
	for at := range api.Sector {
		old := told{"old", []string{"older"}, 6, 5}
		opens(t, changed(0, at), old)
		opens(t, changed(2, at), old)
		none := told{"new", nil, 6, 6}
		opens(t, changed(3, at), none)
		opens(t, changed(4, at), none)
		opens(t, changed(5, at), told{"new", []string{strings.Repeat("x", 300)}, 7, 4})
		all := told{"new", []string{strings.Repeat("x", 300), "y"}, 8, 3}
		for _, i := range []int{1, 6, 7, 8, 9, 10, 15} {
			opens(t, changed(i, at), all)
		}
	}
}

// Sectors of heads, bases and records come in any order; what they tell is what the words tell, and nothing else.
func TestOpenAgainstTheWords(t *testing.T) {
	r := rand.New(rand.NewSource(3))
	seen := map[int]int{}
	for range 20000 {
		l := make([]string, 8+2*r.Intn(3))
		for i := range l {
			l[i] = nulls(api.Sector)
		}
		for range r.Intn(15) {
			num := uint32(1 + r.Intn(4))
			rec := record(num, nulls(r.Intn(3)*r.Intn(230)))
			copy(l[2+r.Intn(len(l)-2):], rec)
			if area := r.Intn(2); r.Intn(2) == 0 {
				copy(l[first(l, area):], rec)
				l[area] = head(area, num)
			}
		}
		if area := r.Intn(2); r.Intn(2) == 0 { // one is laid as it should be
			at, num := first(l, area), uint32(1+r.Intn(3))
			l[area] = head(area, num)
			for at < len(l) && r.Intn(5) > 0 {
				at += copy(l[at:], record(num, sized(r, 1+r.Intn(2))))
				num++
			}
		}
		d := laid(t, l)
		want, area, ok := journalOf(l)
		if !ok {
			opensNot(t, d, api.ErrForm)
			seen[-1]++
			continue
		}
		opens(t, d, want)
		seen[area]++
		seen[2+len(want.records)]++
	}
	for i := -1; i < 6; i++ {
		if seen[i] < 20 {
			t.Errorf("just %d of the kind %d", seen[i], i)
		}
	}
}

func TestOpenWritesNothing(t *testing.T) {
	r := rand.New(rand.NewSource(4))
	d := laid(t, empty(20))
	j := formats(t, d, sized(r, 2))
	for _, x := range []step{{false, "a"}, {true, sized(r, 3)}, {false, "b"}, {false, sized(r, 3)}} {
		does(t, j, x, api.OK)
	}
	l, n := read(t, d), d.Writes()
	want, _, _ := journalOf(l)
	arm(t, d, 0, 0) // the first write would tell
	for range 3 {
		opens(t, d, want)
	}
	if d.Dead() || d.Writes() != n {
		t.Error("Open wrote something")
	}
	stands(t, d, l)
	d.Start()
	l[0], l[1] = nulls(256), nulls(256)
	lay(t, d, l)
	arm(t, d, 0, 0)
	opensNot(t, d, api.ErrForm)
	if d.Dead() {
		t.Error("Open wrote something")
	}
}

// P12.3

func TestAppendAndSaveByCases(t *testing.T) {
	d := laid(t, empty(16)) // areas of 7 sectors
	j := formats(t, d, "base")
	long := strings.Repeat("x", api.MaxText+1)
	for i, x := range []struct {
		step
		e    api.Errno
		next uint32
		left int
	}{
		{step{false, "a"}, api.OK, 3, 5},
		{step{false, ""}, api.OK, 4, 4},
		{step{false, long[:5*piece-8]}, api.ErrFull, 4, 4},
		{step{false, long[:4*piece-8+1]}, api.ErrFull, 4, 4},
		{step{false, long}, api.ErrLong, 4, 4},
		{step{false, long[:4*piece-8]}, api.OK, 5, 0},
		{step{false, ""}, api.ErrFull, 5, 0},
		{step{false, long}, api.ErrLong, 5, 0},
		{step{true, long}, api.ErrLong, 5, 0},
		{step{true, long[:api.MaxText]}, api.ErrFull, 5, 0},
		{step{true, long[:7*piece-8+1]}, api.ErrFull, 5, 0},
		{step{true, long[:7*piece-8]}, api.OK, 6, 0},
		{step{false, ""}, api.ErrFull, 6, 0},
		{step{true, ""}, api.OK, 7, 6},
		{step{true, "b"}, api.OK, 8, 6},
		{step{false, "b"}, api.OK, 9, 5},
		{step{false, "b"}, api.OK, 10, 4},
		{step{true, long[:6*piece-8]}, api.OK, 11, 1},
		{step{false, long[:237]}, api.ErrFull, 11, 1},
		{step{false, long[:236]}, api.OK, 12, 0},
	} {
		l := read(t, d)
		was, _, _ := journalOf(l)
		w, e := plan(l, x.step)
		if e != x.e {
			t.Fatalf("%d: these tests' own words tell %v", i, e)
		}
		does(t, j, x.step, x.e)
		if e == api.OK {
			was = behind(was, x.step, 16)
		}
		tells(t, j, was)
		if j.Next() != x.next || j.Left() != x.left {
			t.Fatalf("%d: next %d, left %d, not %d, %d", i, j.Next(), j.Left(), x.next, x.left)
		}
		stands(t, d, written(l, w...))
		opens(t, d, was)
	}
}

func TestAppendOfTheLongest(t *testing.T) {
	r := rand.New(rand.NewSource(5))
	d := laid(t, empty(4096))
	j := formats(t, d, random(r, api.MaxText))
	want := told{j.Base(), nil, 2, 2047 - 246}
	for want.left >= 246 {
		x := step{false, random(r, api.MaxText)}
		does(t, j, step{false, x.s + "x"}, api.ErrLong)
		does(t, j, x, api.OK)
		want = behind(want, x, 4096)
		tells(t, j, want)
	}
	does(t, j, step{false, random(r, api.MaxText)}, api.ErrFull)
	for want.left > 0 {
		x := step{false, random(r, r.Intn(237))}
		does(t, j, x, api.OK)
		want = behind(want, x, 4096)
	}
	does(t, j, step{false, ""}, api.ErrFull)
	tells(t, j, want)
	opens(t, d, want)
	x := step{true, random(r, api.MaxText)}
	does(t, j, x, api.OK)
	opens(t, d, behind(want, x, 4096))
}

// As many records as go into an area.
func TestManyRecords(t *testing.T) {
	d := laid(t, empty(4096))
	j := formats(t, d, "")
	want := told{"", nil, 2, 2046}
	for i := range 2046 {
		x := step{false, strings.Repeat("x", i%200)}
		does(t, j, x, api.OK)
		want.records = append(want.records, x.s)
	}
	want.next, want.left = 2048, 0
	tells(t, j, want)
	does(t, j, step{false, ""}, api.ErrFull)
	opens(t, d, want)
}

func TestTheGreatestNumbers(t *testing.T) {
	for _, area := range []int{0, 1} {
		for _, num := range []uint32{mostNum - 2, mostNum - 1, mostNum} {
			l := empty(16)
			l[area], l[2+7*area] = head(area, num), record(num, "a")[0]
			want := told{"a", nil, num + 1, 6}
			d := laid(t, l)
			j := opens(t, d, want)
			for num := num; num < mostNum; num++ {
				x := step{num == mostNum-1, "b"}
				does(t, j, x, api.OK)
				want = behind(want, x, 16)
				opens(t, d, want)
			}
			l = read(t, d)
			for _, x := range []step{{false, "c"}, {true, "c"}, {false, ""}, {true, ""}} {
				does(t, j, x, api.ErrFull)
				does(t, j, step{x.save, strings.Repeat("x", api.MaxText+1)}, api.ErrLong) // named first
			}
			tells(t, j, want)
			stands(t, d, l)
		}
	}
	l := empty(16) // where a record's number is beyond them already
	l[1], l[9], l[10] = head(1, mostNum), record(mostNum, "a")[0], record(mostNum+1, "b")[0]
	j := opens(t, laid(t, l), told{"a", []string{"b"}, mostNum + 2, 5})
	does(t, j, step{false, "c"}, api.ErrFull)
	does(t, j, step{true, "c"}, api.ErrFull)
}

func TestFormatOfTheGreatestNumberGoesOn(t *testing.T) {
	l := empty(8)
	l[7] = record(1<<31, "x")[0]
	d := laid(t, l)
	j := formats(t, d, "a")
	want := told{"a", nil, 1<<31 + 2, 2}
	for _, x := range []step{{false, "b"}, {true, "c"}, {false, "d"}, {true, "e"}, {false, "f"}} {
		tells(t, j, want)
		does(t, j, x, api.OK)
		want = behind(want, x, 8)
		opens(t, d, want)
	}
	formatsNot(t, d, "a", api.ErrFull)
}

func TestADeadJournal(t *testing.T) {
	for _, fatal := range []step{{false, "x"}, {true, "x"}} {
		d := laid(t, empty(8))
		j := formats(t, d, "a")
		does(t, j, step{false, "b"}, api.OK)
		want := told{"a", []string{"b"}, 3, 1}
		arm(t, d, 0, 7)
		does(t, j, fatal, api.ErrDead)
		long := strings.Repeat("x", api.MaxText+1)
		for range 2 { // of the dead disk, and of the one that goes again
			for _, s := range []string{"", "c", long[:1000], long} { // ErrDead is named first
				does(t, j, step{false, s}, api.ErrDead)
				does(t, j, step{true, s}, api.ErrDead)
			}
			tells(t, j, want)
			d.Start()
		}
		if d.Writes() != 8+2+1 {
			t.Errorf("it was written %d times", d.Writes())
		}
		j = opens(t, d, want)
		does(t, j, fatal, api.OK)
		opens(t, d, behind(want, fatal, 8))
	}
}

// A disk that died by another's write lets the journal live till it writes itself.
func TestADeadDisk(t *testing.T) {
	d := laid(t, empty(8))
	j := formats(t, d, "a")
	arm(t, d, 0, 0)
	d.Write(7, nulls(256))
	long := strings.Repeat("x", api.MaxText+1)
	does(t, j, step{false, long}, api.ErrLong)
	does(t, j, step{true, long}, api.ErrLong)
	does(t, j, step{false, long[:1000]}, api.ErrFull)
	does(t, j, step{true, long[:1000]}, api.ErrFull)
	d.Start()
	does(t, j, step{false, "b"}, api.OK)
	arm(t, d, 0, 0)
	d.Write(7, nulls(256))
	does(t, j, step{false, "c"}, api.ErrDead)
	d.Start()
	does(t, j, step{false, "c"}, api.ErrDead)
	opens(t, d, told{"a", []string{"b"}, 3, 1})
}

// What was refused leaves the journal alive.
func TestWhatIsRefusedKillsNothing(t *testing.T) {
	d := laid(t, empty(8))
	j := formats(t, d, "a")
	want := told{"a", nil, 2, 2}
	for _, n := range []int{725, 1000, api.MaxText, api.MaxText + 1} {
		s := strings.Repeat("x", n)
		for _, save := range []bool{false, true} {
			if e := do(j, step{save, s}); e == api.OK || e == api.ErrDead {
				t.Fatal(e)
			}
			tells(t, j, want)
		}
	}
	does(t, j, step{false, "b"}, api.OK)
	does(t, j, step{true, "c"}, api.OK)
	tells(t, j, told{"c", nil, 4, 2})
}

func TestNil(t *testing.T) {
	var j *journal.Journal
	for range 2 {
		tells(t, j, told{})
		for _, s := range []string{"", "a", strings.Repeat("x", api.MaxText+1)} {
			does(t, j, step{false, s}, api.ErrArg)
			does(t, j, step{true, s}, api.ErrArg)
		}
	}
}

func TestJournalsAreApart(t *testing.T) {
	d, f := laid(t, empty(8)), laid(t, empty(10))
	a, b := formats(t, d, "a"), formats(t, f, "b")
	does(t, a, step{false, "c"}, api.OK)
	tells(t, b, told{"b", nil, 2, 3})
	arm(t, d, 0, 0)
	does(t, a, step{true, "d"}, api.ErrDead)
	does(t, b, step{true, "e"}, api.OK)
	tells(t, a, told{"a", []string{"c"}, 3, 1})
	tells(t, b, told{"e", nil, 3, 3})
}

func TestRecordsAreNewMemory(t *testing.T) {
	d := laid(t, empty(40))
	j := formats(t, d, "a")
	want := told{"a", nil, 2, 18}
	for _, s := range []string{"b", "c", "d", "e", "f"} {
		does(t, j, step{false, s}, api.OK)
		want = behind(want, step{false, s}, 40)
		l := j.Records()
		_ = append(l, "spoilt")
		all := l[:cap(l)]
		for i := range all {
			all[i] = "spoilt"
		}
		tells(t, j, want)
	}
	j = opens(t, d, want)
	was := j.Records()
	clear(j.Records())
	tells(t, j, want)
	does(t, j, step{false, "g"}, api.OK)
	does(t, j, step{true, "h"}, api.OK)
	if !slices.Equal(was, want.records) {
		t.Error("what was told changed")
	}
}

func TestTextsAreNewMemory(t *testing.T) {
	b := []byte("a text")
	s := unsafe.String(&b[0], len(b))
	d := laid(t, empty(8))
	j := formats(t, d, s)
	does(t, j, step{false, s}, api.OK)
	copy(b, "spoilt")
	tells(t, j, told{"a text", []string{"a text"}, 3, 1})
	if unsafe.StringData(j.Records()[0]) == unsafe.StringData(j.Records()[0]) {
		t.Error("two answers are one memory")
	}
	copy(b, "b text")
	does(t, j, step{true, s}, api.OK)
	copy(b, "spoilt")
	tells(t, j, told{"b text", nil, 4, 2})
	if unsafe.StringData(j.Base()) == unsafe.StringData(j.Base()) {
		t.Error("two answers are one memory")
	}
}

// P12.4

// crashes does a step on a disk that dies at the write n, in that part, and holds what is there then:
// Open tells what there was ahead of the step, or, if all bytes came, what there is behind it.
func crashes(t *testing.T, d *disk.Disk, j *journal.Journal, x step, n, part int) {
	t.Helper()
	l := read(t, d)
	was, _, ok := journalOf(l)
	w, e := plan(l, x)
	if !ok || e != api.OK || n > len(w) {
		t.Fatalf("%s can't crash at the write %d", x, n)
	}
	arm(t, d, n, part)
	next := behind(was, x, len(l))
	if n == len(w) {
		does(t, j, x, api.OK)
		tells(t, j, next)
		d.Start()
		stands(t, d, written(l, w...))
		opens(t, d, next)
		return
	}
	does(t, j, x, api.ErrDead)
	does(t, j, x, api.ErrDead)
	tells(t, j, was)
	d.Start()
	want := crashed(l, w, n, part)
	stands(t, d, want)
	if slices.Equal(want, written(l, w...)) { // all bytes came
		was = next
	}
	opens(t, d, was)
}

// ends are numbers from which on the higher bytes of numbers change, so that a crash may cut between them.
var ends = []uint32{0, 1, 253, 254, 255, 65533, 65534, 1<<24 - 3, 1<<31 - 3, 1<<31 - 2}

func TestEachCrash(t *testing.T) {
	r := rand.New(rand.NewSource(6))
	for _, num := range ends {
		l := empty(12) // areas of 5 sectors
		if num > 0 {
			l[11] = record(num, "x")[0]
		}
		d := laid(t, l)
		j := formats(t, d, sized(r, 1))
		script := []step{{false, sized(r, 2)}, {false, sized(r, 1)}, {true, sized(r, 3)}, {false, sized(r, 2)}, {true, sized(r, 2)}, {false, sized(r, 3)}, {true, sized(r, 5)}, {true, ""}}
		for _, x := range script {
			eachCrash(t, r, read(t, d))
			does(t, j, x, api.OK)
		}
		eachCrash(t, r, read(t, d))
	}
}

// eachCrash crashes in all parts of all writes of steps that go on from a disk.
func eachCrash(t *testing.T, r *rand.Rand, l []string) {
	t.Helper()
	was, _, _ := journalOf(l)
	steps := []step{{true, sized(r, 1)}, {true, sized(r, half(l))}, {true, was.base}}
	for n := 1; n <= was.left; n++ {
		steps = append(steps, step{false, sized(r, n)})
	}
	for _, x := range steps {
		w, _ := plan(l, x)
		for n := range len(w) {
			for _, part := range parts {
				d := laid(t, l)
				crashes(t, d, opens(t, d, was), x, n, part)
			}
		}
	}
}

func TestEachPart(t *testing.T) {
	r := rand.New(rand.NewSource(7))
	d := laid(t, empty(8))
	j := formats(t, d, sized(r, 2))
	does(t, j, step{true, sized(r, 1)}, api.OK)
	l := read(t, d)
	was, _, _ := journalOf(l)
	for _, x := range []step{{false, sized(r, 2)}, {true, sized(r, 2)}} {
		w, _ := plan(l, x)
		for n := range len(w) {
			for part := range api.Sector + 1 {
				d := laid(t, l)
				crashes(t, d, opens(t, d, was), x, n, part)
			}
		}
	}
}

// Crash upon crash: of what they leave nothing is ever read, but what was told.
func TestScriptsOfCrashes(t *testing.T) {
	r := rand.New(rand.NewSource(8))
	done, dead := 0, 0
	for i := range 300 {
		l := empty(8 + 2*r.Intn(8))
		if num := ends[i%len(ends)]; num > 0 {
			l[len(l)-1] = record(num, "x")[0]
		}
		d := laid(t, l)
		j := formats(t, d, sized(r, 1+r.Intn(half(l))))
		texts := []string{"", "a", "a", sized(r, 1), sized(r, 2), nulls(3 * piece)}
		for range 60 {
			l := read(t, d)
			x := step{r.Intn(3) == 0, texts[r.Intn(len(texts))]}
			if r.Intn(2) == 0 {
				x.s = sized(r, 1+r.Intn(half(l)))
			}
			w, e := plan(l, x)
			if e != api.OK {
				does(t, j, x, e)
				stands(t, d, l)
				continue
			}
			n := r.Intn(len(w) + 1)
			if r.Intn(4) == 0 {
				n = len(w)
			}
			part := r.Intn(api.Sector + 1)
			if r.Intn(2) == 0 {
				part = parts[r.Intn(len(parts))]
			}
			crashes(t, d, j, x, n, part)
			done++
			if n < len(w) {
				dead++
				want, _, _ := journalOf(read(t, d))
				j = opens(t, d, want)
			}
		}
	}
	if done-dead < 1000 || dead < 1000 {
		t.Errorf("just %d steps, and %d crashes", done-dead, dead)
	}
}

// What a step that crashed left is not read behind another one of the same number.
func TestWhatCrashedIsNotReadLater(t *testing.T) {
	r := rand.New(rand.NewSource(9))
	for _, cut := range []int{1, 2, 3} {
		for _, later := range [][]int{{1}, {1, 1}, {1, 1, 1, 1}, {2, 1}, {3, 1}, {4}, {2, 2}} {
			d := laid(t, empty(16))
			j := formats(t, d, "a")
			want := told{"a", nil, 2, 6}
			crashes(t, d, j, step{false, sized(r, 4)}, cut, 200)
			j = opens(t, d, want)
			for _, n := range later {
				x := step{false, sized(r, n)}
				does(t, j, x, api.OK)
				want = behind(want, x, 16)
				opens(t, d, want)
			}
		}
	}
}

// A Save of which all came but its head leaves a whole base of a number that comes again.
func TestABaseWithoutAHeadIsNotRead(t *testing.T) {
	for _, x := range []step{{false, "d"}, {true, "d"}} {
		for _, saved := range []bool{false, true} {
			d := laid(t, empty(8))
			j := formats(t, d, "a")
			want := told{"a", nil, 2, 2}
			if saved {
				does(t, j, step{true, "a"}, api.OK)
				want = told{"a", nil, 3, 2}
			}
			crashes(t, d, j, step{true, "b"}, 1, 0)
			j = opens(t, d, want)
			crashes(t, d, j, x, 0, 256)
			l := read(t, d)
			want, _, _ = journalOf(l)
			j = opens(t, d, want)
			for _, x := range []step{{false, "e"}, {true, "f"}, {false, "g"}, {true, "h"}} {
				if _, e := plan(read(t, d), x); e != api.OK {
					t.Fatal(e)
				}
				does(t, j, x, api.OK)
				want = behind(want, x, 8)
				opens(t, d, want)
			}
		}
	}
}

// P12.5

func TestOpenedAgainAndAgain(t *testing.T) {
	r := rand.New(rand.NewSource(10))
	for range 100 {
		d := laid(t, empty(8+2*r.Intn(20)))
		j := formats(t, d, sized(r, 1))
		want := told{j.Base(), nil, 2, (d.Size()-2)/2 - 1}
		for range 30 {
			x := step{r.Intn(4) == 0, sized(r, 1+r.Intn(3))}
			if e := do(j, x); e == api.OK {
				want = behind(want, x, d.Size())
			} else if e != api.ErrFull {
				t.Fatal(e)
			}
			for range r.Intn(3) {
				j = opens(t, d, want)
			}
			tells(t, j, want)
		}
	}
}

// Whatever was there ahead of Format: records, bases and heads of any numbers, and crashes of them.
func TestNothingOldIsRead(t *testing.T) {
	r := rand.New(rand.NewSource(11))
	for range 300 {
		n := 8 + 2*r.Intn(8)
		d := laid(t, empty(n))
		for range 5 {
			j := formats(t, d, sized(r, 1+r.Intn((n-2)/2)))
			want := told{j.Base(), nil, j.Next(), j.Left()}
			for range r.Intn(12) {
				opens(t, d, want)
				x := step{r.Intn(3) == 0, sized(r, 1+r.Intn(2))}
				l := read(t, d)
				w, e := plan(l, x)
				if e != api.OK {
					continue
				}
				if r.Intn(8) == 0 {
					crashes(t, d, j, x, r.Intn(len(w)), parts[r.Intn(len(parts))])
					break
				}
				does(t, j, x, api.OK)
				want = behind(want, x, n)
			}
		}
	}
}

// Each sector of an old disk is the record that would come next, were it not for the greatest number.
func TestOldRecordsOfAllNumbers(t *testing.T) {
	for n := 8; n <= 20; n += 2 {
		for base := range uint32(n) {
			l := empty(n)
			for i := range l {
				l[i] = record(base+uint32(i)+1, "old")[0]
			}
			l[0], l[1] = head(0, base+3), head(1, base+uint32(first(l, 1))+1)
			d := laid(t, l)
			if old, _, ok := journalOf(l); !ok || len(old.records) != half(l)-1 {
				t.Fatal("these tests' own words tell something else")
			}
			j := formats(t, d, "new")
			want := told{"new", nil, base + uint32(n) + 2, half(l) - 1}
			for range half(l) - 1 {
				tells(t, j, want)
				opens(t, d, want)
				does(t, j, step{false, "newer"}, api.OK)
				want = behind(want, step{false, "newer"}, n)
			}
			does(t, j, step{true, "newest"}, api.OK)
			opens(t, d, behind(want, step{true, "newest"}, n))
		}
	}
}

func TestExampleOfTheChapter(t *testing.T) {
	d := laid(t, empty(8))
	j := formats(t, d, "a")
	does(t, j, step{false, "b"}, api.OK)
	opens(t, d, told{"a", []string{"b"}, 3, 1})
}
