package disk_test

import (
	"math"
	"math/rand"
	"strings"
	"testing"
	"unsafe"

	"annuity/api"
	"annuity/disk"
)

// nulls is a sector of bytes 00.
var nulls = strings.Repeat("\x00", api.Sector)

// of is a sector that has one byte throughout.
func of(b byte) string { return strings.Repeat(string([]byte{b}), api.Sector) }

// random is a sector of any bytes.
func random(r *rand.Rand) string {
	b := make([]byte, api.Sector)
	r.Read(b)
	return string(b)
}

// made is a new disk.
func made(t *testing.T, n int) *disk.Disk {
	t.Helper()
	d, e := disk.New(n)
	if d == nil || e != api.OK {
		t.Fatalf("New(%d): %v, %v", n, d, e)
	}
	return d
}

func reads(t *testing.T, d *disk.Disk, i int, want string) {
	t.Helper()
	if s, e := d.Read(i); s != want || e != api.OK {
		t.Fatalf("Read(%d): %q, %v, not %q", i, s, e, want)
	}
}

func readsNot(t *testing.T, d *disk.Disk, i int, want api.Errno) {
	t.Helper()
	if s, e := d.Read(i); s != "" || e != want {
		t.Fatalf("Read(%d): %q, %v, not %v", i, s, e, want)
	}
}

func writes(t *testing.T, d *disk.Disk, i int, s string, want api.Errno) {
	t.Helper()
	if e := d.Write(i, s); e != want {
		t.Fatalf("Write(%d, %d bytes): %v, not %v", i, len(s), e, want)
	}
}

func arms(t *testing.T, d *disk.Disk, n, part int, want api.Errno) {
	t.Helper()
	if e := d.Arm(n, part); e != want {
		t.Fatalf("Arm(%d, %d): %v, not %v", n, part, e, want)
	}
}

// is holds what is told of the whole disk.
func is(t *testing.T, d *disk.Disk, size, written int, dead bool) {
	t.Helper()
	if d.Size() != size || d.Writes() != written || d.Dead() != dead {
		t.Fatalf("size %d, writes %d, dead %v, not %d, %d, %v", d.Size(), d.Writes(), d.Dead(), size, written, dead)
	}
}

// dies lets a disk die at a write to sector i.
func dies(t *testing.T, d *disk.Disk, i int, s string, part int) {
	t.Helper()
	arms(t, d, 0, part, api.OK)
	writes(t, d, i, s, api.ErrDead)
}

// noPlaces are outside a disk of n sectors.
func noPlaces(n int) []int {
	return []int{-1, n, n + 1, -n, api.MaxDisk, 1 << 16, 1 << 32, -1 << 32, math.MaxInt, math.MinInt}
}

// P11.1

func TestNewByCases(t *testing.T) {
	for _, n := range []int{1, 2, 3, 7, 8, 255, 256, 257, 4095, 4096} {
		is(t, made(t, n), n, 0, false)
	}
	for _, n := range []int{0, -1, -2, -4096, 4097, 4098, 8192, 65536, 1 << 32, 1<<32 + 1, -1<<32 + 1, math.MaxInt, math.MinInt, math.MinInt + 1} {
		if d, e := disk.New(n); d != nil || e != api.ErrArg {
			t.Errorf("New(%d): %v, %v", n, d, e)
		}
	}
}

func TestNewHasNulls(t *testing.T) {
	for _, n := range []int{1, 2, 100, 4096} {
		d := made(t, n)
		for i := range n {
			reads(t, d, i, nulls)
		}
		is(t, d, n, 0, false)
	}
}

func TestReadOfNoPlace(t *testing.T) {
	for _, n := range []int{1, 2, 100, 4095} {
		d := made(t, n)
		writes(t, d, 0, of('a'), api.OK)
		writes(t, d, n-1, of('a'), api.OK)
		for _, i := range noPlaces(n) {
			readsNot(t, d, i, api.ErrArg)
		}
	}
}

func TestReadOfADeadOne(t *testing.T) {
	d := made(t, 3)
	dies(t, d, 1, of('a'), 100)
	for _, i := range append(noPlaces(3), 0, 1, 2) { // ErrDead is named first
		readsNot(t, d, i, api.ErrDead)
	}
	d.Start()
	readsNot(t, d, 3, api.ErrArg)
	reads(t, d, 0, nulls)
}

func TestReadChangesNothing(t *testing.T) {
	d := made(t, 2)
	writes(t, d, 0, of('a'), api.OK)
	arms(t, d, 1, 5, api.OK)
	for range 10 {
		reads(t, d, 0, of('a'))
		reads(t, d, 1, nulls)
		readsNot(t, d, 2, api.ErrArg)
	}
	is(t, d, 2, 1, false)
	writes(t, d, 1, of('b'), api.OK) // the reads were none of the writes that were armed
	writes(t, d, 1, of('c'), api.ErrDead)
	d.Start()
	reads(t, d, 1, "ccccc"+of('b')[5:])
}

func TestWritesAreCounted(t *testing.T) {
	d := made(t, 4)
	for n := range 1000 {
		is(t, d, 4, n, false)
		writes(t, d, n*n%4, of('a'), api.OK) // the same bytes, over them, are written too
	}
	for _, i := range noPlaces(4) {
		writes(t, d, i, of('b'), api.ErrArg)
	}
	writes(t, d, 0, "", api.ErrArg)
	is(t, d, 4, 1000, false)
	for part := range api.Sector + 1 { // also where all bytes came
		dies(t, d, 0, of('c'), part)
		is(t, d, 4, 1000, true)
		writes(t, d, 0, of('c'), api.ErrDead)
		is(t, d, 4, 1000, true)
		d.Start()
		is(t, d, 4, 1000, false)
	}
	arms(t, d, 3, 256, api.OK)
	for i := range 3 {
		writes(t, d, i, of('d'), api.OK)
		is(t, d, 4, 1001+i, false)
	}
	writes(t, d, 3, of('d'), api.ErrDead)
	d.Start()
	is(t, d, 4, 1003, false)
	writes(t, d, 3, of('d'), api.OK)
	is(t, d, 4, 1004, false)
}

func TestNil(t *testing.T) {
	var d *disk.Disk
	for _, i := range []int{0, 1, -1, math.MaxInt} {
		readsNot(t, d, i, api.ErrArg)
		writes(t, d, i, nulls, api.ErrArg)
		writes(t, d, i, "", api.ErrArg)
		arms(t, d, i, 0, api.ErrArg)
		arms(t, d, 0, i, api.ErrArg)
	}
	d.Start()
	is(t, d, 0, 0, false)
}

func TestDisksAreApart(t *testing.T) {
	a, b := made(t, 4), made(t, 5)
	writes(t, a, 3, of('a'), api.OK)
	reads(t, b, 3, nulls)
	writes(t, b, 3, of('b'), api.OK)
	writes(t, b, 4, of('b'), api.OK)
	arms(t, a, 0, 1, api.OK)
	writes(t, b, 0, of('b'), api.OK)
	writes(t, a, 0, of('a'), api.ErrDead)
	is(t, a, 4, 1, true)
	is(t, b, 5, 3, false)
	b.Start()
	is(t, a, 4, 1, true)
	reads(t, b, 0, of('b'))
}

// P11.2

func TestWriteByCases(t *testing.T) {
	r := rand.New(rand.NewSource(1))
	for _, n := range []int{1, 2, 9, 4096} {
		d, want := made(t, n), make([]string, n)
		for i := range want {
			want[i] = nulls
		}
		for range 2 {
			for _, i := range r.Perm(n) {
				want[i] = random(r)
				writes(t, d, i, want[i], api.OK)
				reads(t, d, i, want[i])
			}
			for i, s := range want {
				reads(t, d, i, s)
			}
		}
		is(t, d, n, 2*n, false)
	}
}

func TestWriteOfNulls(t *testing.T) {
	d := made(t, 2)
	writes(t, d, 1, of(0xff), api.OK)
	writes(t, d, 1, nulls, api.OK)
	reads(t, d, 1, nulls)
	writes(t, d, 0, nulls, api.OK)
	reads(t, d, 0, nulls)
	is(t, d, 2, 3, false)
}

// sizes are of what is no sector.
var sizes = []int{0, 1, 2, 3, 128, 254, 255, 257, 258, 511, 512, 1024, 65535, 65536, 65536 + 256, 1 << 20}

func TestWriteOfWhatIsNoSector(t *testing.T) {
	long := strings.Repeat("x", 1<<20)
	d := made(t, 3)
	writes(t, d, 1, of('a'), api.OK)
	for _, n := range sizes {
		for i := range 3 {
			writes(t, d, i, long[:n], api.ErrArg)
		}
	}
	for n := range 600 {
		if n != api.Sector {
			writes(t, d, 1, long[:n], api.ErrArg)
		}
	}
	for _, i := range noPlaces(3) {
		writes(t, d, i, of('b'), api.ErrArg)
		writes(t, d, i, "", api.ErrArg)
	}
	reads(t, d, 0, nulls)
	reads(t, d, 1, of('a'))
	reads(t, d, 2, nulls)
	is(t, d, 3, 1, false)
}

func TestWriteToADeadOne(t *testing.T) {
	d := made(t, 3)
	writes(t, d, 0, of('a'), api.OK)
	dies(t, d, 1, of('b'), 3)
	for _, i := range append(noPlaces(3), 0, 1, 2) { // ErrDead is named first
		for _, s := range []string{of('c'), "", "c", of('c') + "c"} {
			writes(t, d, i, s, api.ErrDead)
		}
	}
	is(t, d, 3, 1, true)
	d.Start()
	reads(t, d, 0, of('a'))
	reads(t, d, 1, "bbb"+nulls[3:])
	reads(t, d, 2, nulls)
	writes(t, d, 2, of('c'), api.OK)
	reads(t, d, 2, of('c'))
}

func TestArmedWithSoManyWrites(t *testing.T) {
	for _, n := range []int{0, 1, 2, 3, 10, 99999, 100000} {
		d := made(t, 5)
		arms(t, d, n, 7, api.OK)
		for k := range n {
			writes(t, d, k%5, of(byte(k)), api.OK)
		}
		is(t, d, 5, n, false)
		was, _ := d.Read(2)
		writes(t, d, 2, of('x'), api.ErrDead)
		is(t, d, 5, n, true)
		readsNot(t, d, 2, api.ErrDead)
		d.Start()
		reads(t, d, 2, "xxxxxxx"+was[7:])
		for k := range 5 { // no longer armed
			writes(t, d, k, of('y'), api.OK)
		}
		is(t, d, 5, n+5, false)
	}
}

func TestArmedOneTakesWrongWrites(t *testing.T) {
	d := made(t, 2)
	wrong := func() {
		for _, i := range noPlaces(2) {
			writes(t, d, i, of('x'), api.ErrArg)
		}
		for _, n := range sizes {
			writes(t, d, 0, strings.Repeat("x", n), api.ErrArg)
		}
	}
	arms(t, d, 2, 4, api.OK)
	wrong()
	writes(t, d, 0, of('a'), api.OK)
	wrong()
	writes(t, d, 1, of('a'), api.OK)
	wrong() // the crash is the next write's: these are none
	is(t, d, 2, 2, false)
	writes(t, d, 0, of('b'), api.ErrDead)
	d.Start()
	reads(t, d, 0, "bbbb"+of('a')[4:])
	reads(t, d, 1, of('a'))
}

func TestNotArmedAnyMoreWhenDead(t *testing.T) {
	d := made(t, 1)
	dies(t, d, 0, of('a'), 1)
	writes(t, d, 0, of('b'), api.ErrDead) // of this one nothing comes
	d.Start()
	reads(t, d, 0, "a"+nulls[1:])
	is(t, d, 1, 0, false)
}

// P11.3

func TestArmByCases(t *testing.T) {
	for _, x := range []struct {
		n, part int
		e       api.Errno
	}{
		{0, 0, api.OK}, {0, 256, api.OK}, {100000, 0, api.OK}, {100000, 256, api.OK}, {1, 1, api.OK}, {99999, 255, api.OK},
		{-1, 0, api.ErrArg}, {0, -1, api.ErrArg}, {100001, 0, api.ErrArg}, {0, 257, api.ErrArg}, {-1, -1, api.ErrArg}, {100001, 257, api.ErrArg},
		{-1, 256, api.ErrArg}, {100000, 257, api.ErrArg}, {math.MaxInt, 5, api.ErrArg}, {math.MinInt, 5, api.ErrArg},
		{5, math.MaxInt, api.ErrArg}, {5, math.MinInt, api.ErrArg}, {1 << 32, 5, api.ErrArg}, {5, 1 << 32, api.ErrArg},
		{1<<32 + 5, 5, api.ErrArg}, {5, 1<<32 + 5, api.ErrArg}, {5, 512, api.ErrArg}, {5, 65536, api.ErrArg}, {-100000, 5, api.ErrArg}, {5, -256, api.ErrArg},
	} {
		d := made(t, 2)
		arms(t, d, x.n, x.part, x.e)
		is(t, d, 2, 0, false)
		if x.e != api.OK { // and it is not armed
			writes(t, d, 0, of('a'), api.OK)
			continue
		}
		for range x.n {
			writes(t, d, 0, of('a'), api.OK)
		}
		writes(t, d, 1, of('b'), api.ErrDead)
		d.Start()
		reads(t, d, 1, of('b')[:x.part]+nulls[x.part:])
	}
}

func TestArmedAnew(t *testing.T) {
	for _, x := range []struct{ n, part, m, more int }{{0, 5, 2, 7}, {2, 7, 0, 5}, {5, 256, 1, 0}, {1, 0, 5, 256}, {100000, 1, 3, 3}} {
		d := made(t, 1)
		arms(t, d, x.n, x.part, api.OK)
		arms(t, d, x.m, x.more, api.OK)
		for range x.m {
			writes(t, d, 0, of('a'), api.OK)
		}
		was, _ := d.Read(0)
		writes(t, d, 0, of('b'), api.ErrDead)
		d.Start()
		reads(t, d, 0, of('b')[:x.more]+was[x.more:])
		is(t, d, 1, x.m, false)
	}
	d := made(t, 1)
	arms(t, d, 3, 5, api.OK)
	writes(t, d, 0, of('a'), api.OK)
	writes(t, d, 0, of('a'), api.OK)
	arms(t, d, 3, 6, api.OK) // it begins from three again
	for range 3 {
		writes(t, d, 0, of('a'), api.OK)
	}
	writes(t, d, 0, of('b'), api.ErrDead)
	d.Start()
	reads(t, d, 0, "bbbbbb"+of('a')[6:])
}

func TestWrongArmLeavesItAsItWas(t *testing.T) {
	d := made(t, 1)
	arms(t, d, 1, 9, api.OK)
	arms(t, d, -1, 5, api.ErrArg)
	arms(t, d, 0, 257, api.ErrArg)
	arms(t, d, 100001, 0, api.ErrArg)
	writes(t, d, 0, of('a'), api.OK)
	arms(t, d, 5, -1, api.ErrArg)
	writes(t, d, 0, of('b'), api.ErrDead)
	arms(t, d, -1, 5, api.ErrArg)
	is(t, d, 1, 1, true)
	d.Start()
	reads(t, d, 0, "bbbbbbbbb"+of('a')[9:])
	arms(t, d, -1, 5, api.ErrArg)
	writes(t, d, 0, of('c'), api.OK)
	is(t, d, 1, 2, false)
}

func TestArmOfADeadOne(t *testing.T) {
	d := made(t, 1)
	dies(t, d, 0, of('a'), 2)
	arms(t, d, 1, 3, api.OK)
	arms(t, d, 101, 300, api.ErrArg)
	is(t, d, 1, 0, true)
	readsNot(t, d, 0, api.ErrDead)
	writes(t, d, 0, of('b'), api.ErrDead)
	writes(t, d, 0, of('b'), api.ErrDead)
	is(t, d, 1, 0, true)
	d.Start() // nor armed
	for range 5 {
		reads(t, d, 0, "aa"+nulls[2:])
		writes(t, d, 0, "aa"+nulls[2:], api.OK)
	}
	is(t, d, 1, 5, false)
}

func TestStart(t *testing.T) {
	r := rand.New(rand.NewSource(2))
	d, want := made(t, 6), make([]string, 6)
	for i := range want {
		want[i] = random(r)
		writes(t, d, i, want[i], api.OK)
	}
	same := func(written int) {
		t.Helper()
		d.Start()
		is(t, d, 6, written, false)
		for i, s := range want {
			reads(t, d, i, s)
		}
	}
	same(6) // of one that is neither dead nor armed
	arms(t, d, 0, 5, api.OK)
	same(6)
	writes(t, d, 0, want[0], api.OK) // no longer armed
	arms(t, d, 3, 5, api.OK)
	writes(t, d, 1, want[1], api.OK)
	same(8)
	for range 5 {
		writes(t, d, 2, want[2], api.OK)
	}
	dies(t, d, 3, of('x'), 0)
	same(13)
	same(13)
	dies(t, d, 3, of('x'), 10)
	want[3] = "xxxxxxxxxx" + want[3][10:]
	same(13)
}

// P11.4

func TestWritesThatAreCut(t *testing.T) {
	r := rand.New(rand.NewSource(3))
	d := made(t, 3)
	for _, i := range []int{0, 1, 2} {
		old := nulls // it was never written
		for part := range api.Sector + 1 {
			other, _ := d.Read((i + 1) % 3)
			s := random(r)
			dies(t, d, i, s, part)
			d.Start()
			reads(t, d, i, s[:part]+old[part:])
			reads(t, d, (i+1)%3, other)
			old = random(r)
			writes(t, d, i, old, api.OK)
			reads(t, d, i, old)
		}
	}
}

func TestWritesThatAreCutOneOverTheOther(t *testing.T) {
	r := rand.New(rand.NewSource(4))
	d, want := made(t, 1), nulls
	for range 1000 {
		s, part := random(r), r.Intn(api.Sector+1)
		dies(t, d, 0, s, part)
		d.Start()
		want = s[:part] + want[part:]
		reads(t, d, 0, want)
	}
	is(t, d, 1, 0, false)
}

func TestExampleOfTheChapter(t *testing.T) {
	d := made(t, 1)
	arms(t, d, 0, 3, api.OK)
	writes(t, d, 0, "abc"+of('.')[3:], api.ErrDead)
	d.Start()
	reads(t, d, 0, "abc"+nulls[3:])
}

// What is told and what was handed in share no memory with the disk.

func TestReadIsNewMemory(t *testing.T) {
	d := made(t, 1)
	s := random(rand.New(rand.NewSource(5)))
	for range 2 { // bytes 00 first
		a, _ := d.Read(0)
		b, _ := d.Read(0)
		if unsafe.StringData(a) == unsafe.StringData(b) {
			t.Error("two answers are one memory")
		}
		if unsafe.StringData(a) == unsafe.StringData(s) {
			t.Error("an answer is what was handed in")
		}
		writes(t, d, 0, s, api.OK)
	}
}

func TestWrittenIsKeptApart(t *testing.T) {
	for _, part := range []int{100, api.Sector} {
		d := made(t, 1)
		b := []byte(of('a'))
		writes(t, d, 0, unsafe.String(&b[0], len(b)), api.OK)
		copy(b, of('b'))
		reads(t, d, 0, of('a'))
		arms(t, d, 0, part, api.OK)
		writes(t, d, 0, unsafe.String(&b[0], len(b)), api.ErrDead)
		copy(b, of('c'))
		d.Start()
		reads(t, d, 0, of('b')[:part]+of('a')[part:])
	}
}

func TestReadStaysAsItWas(t *testing.T) {
	d := made(t, 1)
	was, _ := d.Read(0)
	writes(t, d, 0, of('a'), api.OK)
	then, _ := d.Read(0)
	dies(t, d, 0, of('b'), 100)
	if was != nulls || then != of('a') {
		t.Error("what was read changed")
	}
}

// byWords is a disk as the chapter's words have it.
type byWords struct {
	sectors     []string
	writes      int
	dead, armed bool
	n, part     int
}

func (d *byWords) read(i int) (string, api.Errno) {
	if d.dead {
		return "", api.ErrDead
	}
	if i < 0 || i >= len(d.sectors) {
		return "", api.ErrArg
	}
	return d.sectors[i], api.OK
}

func (d *byWords) write(i int, s string) api.Errno {
	if d.dead {
		return api.ErrDead
	}
	if i < 0 || i >= len(d.sectors) || len(s) != api.Sector {
		return api.ErrArg
	}
	if d.armed && d.n == 0 {
		d.sectors[i] = s[:d.part] + d.sectors[i][d.part:]
		d.dead, d.armed = true, false
		return api.ErrDead
	}
	if d.armed {
		d.n--
	}
	d.sectors[i] = s
	d.writes++
	return api.OK
}

func (d *byWords) arm(n, part int) api.Errno {
	if n < 0 || n > 100000 || part < 0 || part > api.Sector {
		return api.ErrArg
	}
	d.armed, d.n, d.part = true, n, part
	return api.OK
}

func (d *byWords) start() { d.dead, d.armed = false, false }

func TestScriptsAgainstTheWords(t *testing.T) {
	r := rand.New(rand.NewSource(6))
	deaths := 0
	for range 2000 {
		size := 1 + r.Intn(5)
		d, w := made(t, size), &byWords{sectors: make([]string, size)}
		for i := range w.sectors {
			w.sectors[i] = nulls
		}
		for range 100 {
			wasDead := w.dead
			i := r.Intn(size+2) - 1
			switch r.Intn(6) {
			case 0:
				s, e := d.Read(i)
				if ws, we := w.read(i); s != ws || e != we {
					t.Fatalf("Read(%d): %q, %v, not %q, %v", i, s, e, ws, we)
				}
			case 1, 2, 3:
				s := random(r)
				if r.Intn(10) == 0 {
					s = (s + s)[:r.Intn(513)]
				}
				writes(t, d, i, s, w.write(i, s))
			case 4:
				n, part := r.Intn(7)-1, r.Intn(api.Sector+20)-10
				arms(t, d, n, part, w.arm(n, part))
			default:
				if r.Intn(3) == 0 {
					d.Start()
					w.start()
				}
			}
			is(t, d, size, w.writes, w.dead)
			if w.dead && !wasDead {
				deaths++
			}
		}
		d.Start()
		for i, s := range w.sectors {
			reads(t, d, i, s)
		}
	}
	if deaths < 1000 {
		t.Errorf("just %d crashes", deaths)
	}
}
