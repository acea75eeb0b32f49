package event_test

import (
	"encoding/binary"
	"encoding/hex"
	"math"
	"math/big"
	"math/rand"
	"slices"
	"strings"
	"testing"

	"annuity/api"
	"annuity/event"
)

const (
	eventSize = 39
	undoSize  = 9
	tiny      = math.SmallestNonzeroFloat64
)

var minus0 = math.Copysign(0, -1)

// rate and income are the first float64s that are too great.
var rate, income = above(10000, api.MaxRate), above(100, api.MaxAmount)

// above is the least float64 that, taken times a scale, is above most (an even number, to which the half above it is rounded).
func above(scale, most float64) float64 {
	f := math.Nextafter((most+0.5)/scale, 0) // near enough that a few steps reach it
	for atMost(f, int64(scale), int64(most)) {
		f = math.Nextafter(f, math.Inf(1))
	}
	return f
}

// atMost tells whether a number that is good, times a scale, is rounded to at most an even number.
func atMost(f float64, scale, most int64) bool {
	product := new(big.Rat).SetFloat64(f)
	product.Mul(product, big.NewRat(scale, 1))
	return product.Cmp(big.NewRat(2*most+1, 2)) <= 0
}

// takes tells whether a float stands for at most that, and is not -0.
func takes(f float64, scale, most int64) bool {
	return !math.IsNaN(f) && !math.IsInf(f, 0) && !math.Signbit(f) && atMost(f, scale, most)
}

// alike tells whether two events have the same fields, one by one.
func alike(a, b api.Event) bool {
	return a.Kind == b.Kind && a.Day == b.Day && a.Key == b.Key && a.Loan == b.Loan && a.Amount == b.Amount &&
		math.Float64bits(a.Rate) == math.Float64bits(b.Rate) && math.Float64bits(a.Income) == math.Float64bits(b.Income) &&
		a.Subsidised == b.Subsidised && a.Status == b.Status && a.Plan == b.Plan && a.Family == b.Family
}

// alikeCommands is the same of commands.
func alikeCommands(a, b api.Command) bool {
	return a.Undo == b.Undo && a.Key == b.Key && a.Of == b.Of && alike(a.E, b.E)
}

// hasForm is what the chapter's words say of an event.
func hasForm(e api.Event) bool {
	isLoan := 1 <= e.Loan && e.Loan <= 1000
	isAmount := 1 <= e.Amount && e.Amount <= 1000000000
	named := api.Event{Kind: e.Kind, Day: e.Day, Key: e.Key}
	ok := false
	switch e.Kind {
	case api.Disburse:
		named.Loan, named.Amount, named.Rate, named.Subsidised = e.Loan, e.Amount, e.Rate, e.Subsidised
		ok = isLoan && isAmount && takes(e.Rate, 10000, 250000)
	case api.Status:
		named.Loan, named.Status = e.Loan, e.Status
		ok = isLoan && 1 <= e.Status && e.Status <= 5
	case api.Payment:
		named.Amount = e.Amount
		ok = isAmount
	case api.Fee:
		named.Loan, named.Amount = e.Loan, e.Amount
		ok = isLoan && isAmount
	case api.Enroll:
		named.Plan = e.Plan
		ok = 1 <= e.Plan && e.Plan <= 4
		if e.Plan == 4 {
			named.Income, named.Family = e.Income, e.Family
			ok = takes(e.Income, 100, 1000000000) && 1 <= e.Family && e.Family <= 30
		}
	case api.Forgive:
		ok = true
	case api.Consolidate, api.Discharge:
		named.Loan = e.Loan
		ok = isLoan
	}
	return ok && 0 <= e.Day && e.Day <= 87658 && alike(e, named)
}

// isFine is what the chapter's words say of a command.
func isFine(c api.Command) bool {
	if c.Undo {
		return alike(c.E, api.Event{})
	}
	return c.Of == 0 && hasForm(c.E) && c.E.Key == c.Key
}

// bytesOf is the bytes of an event, as the library lays them.
func bytesOf(e api.Event) string {
	le := binary.LittleEndian
	b := []byte{byte(e.Kind)}
	b = le.AppendUint32(b, uint32(e.Day))
	b = le.AppendUint32(b, e.Key)
	b = le.AppendUint16(b, uint16(e.Loan))
	b = le.AppendUint64(b, uint64(e.Amount))
	b = le.AppendUint64(b, math.Float64bits(e.Rate))
	b = le.AppendUint64(b, math.Float64bits(e.Income))
	b = append(b, oneIf(e.Subsidised), byte(e.Status), byte(e.Plan), byte(e.Family))
	return string(b)
}

// commandBytes is the bytes of a command.
func commandBytes(c api.Command) string {
	b := binary.LittleEndian.AppendUint32([]byte{oneIf(c.Undo)}, c.Key)
	if c.Undo {
		return string(binary.LittleEndian.AppendUint32(b, c.Of))
	}
	return string(b) + bytesOf(c.E)
}

func oneIf(b bool) byte {
	if b {
		return 1
	}
	return 0
}

// read is the event whose bytes b is, by the words alone.
func read(b string) (api.Event, bool) {
	if len(b) != eventSize {
		return api.Event{}, false
	}
	num := func(from, to int) uint64 {
		return binary.LittleEndian.Uint64(append([]byte(b[from:to]), make([]byte, 8)...))
	}
	e := api.Event{
		Kind: int(b[0]), Day: int(num(1, 5)), Key: uint32(num(5, 9)), Loan: int(num(9, 11)), Amount: int64(num(11, 19)),
		Rate: math.Float64frombits(num(19, 27)), Income: math.Float64frombits(num(27, 35)),
		Subsidised: b[35] == 1, Status: int(b[36]), Plan: int(b[37]), Family: int(b[38]),
	}
	if b[35] > 1 || !hasForm(e) {
		return api.Event{}, false
	}
	return e, true
}

// readCommand is the command whose bytes b is, by the words alone.
func readCommand(b string) (api.Command, bool) {
	if len(b) < undoSize {
		return api.Command{}, false
	}
	c := api.Command{Undo: b[0] == 1, Key: binary.LittleEndian.Uint32([]byte(b[1:5]))}
	switch {
	case b[0] == 1:
		c.Of = binary.LittleEndian.Uint32([]byte(b[5:9]))
		if len(b) != undoSize {
			return api.Command{}, false
		}
		return c, true
	case b[0] == 0:
		e, ok := read(b[5:])
		if ok && e.Key == c.Key {
			c.E = e
			return c, true
		}
	}
	return api.Command{}, false
}

// fitting are events that have a form: of each kind and plan, at all edges that the chapter names.
func fitting() []api.Event {
	l := []api.Event{
		{Kind: api.Disburse, Loan: 1, Amount: 1},
		{Kind: api.Disburse, Day: api.MaxDay, Key: math.MaxUint32, Loan: 1000, Amount: api.MaxAmount, Rate: 25, Subsidised: true},
		{Kind: api.Disburse, Day: 1, Key: 7, Loan: 3, Amount: 1200000, Rate: 4.53},
		{Kind: api.Disburse, Loan: 256, Amount: 255, Rate: tiny},
		{Kind: api.Disburse, Loan: 999, Amount: 256, Rate: math.Nextafter(rate, 0), Subsidised: true},
		{Kind: api.Payment, Day: 14669, Key: 1, Amount: 5},
		{Kind: api.Payment, Amount: api.MaxAmount},
		{Kind: api.Fee, Day: 300, Key: 70000, Loan: 1, Amount: 1},
		{Kind: api.Fee, Loan: 1000, Amount: api.MaxAmount},
		{Kind: api.Enroll, Plan: api.Standard},
		{Kind: api.Enroll, Day: 5, Key: 6, Plan: api.Extended},
		{Kind: api.Enroll, Plan: api.Graduated},
		{Kind: api.Enroll, Plan: api.ByIncome, Family: 1},
		{Kind: api.Enroll, Key: 9, Plan: api.ByIncome, Income: 10000000, Family: 30},
		{Kind: api.Enroll, Day: 70000, Plan: api.ByIncome, Income: 45678.91, Family: 4},
		{Kind: api.Enroll, Plan: api.ByIncome, Income: math.Nextafter(income, 0), Family: 2},
		{Kind: api.Enroll, Plan: api.ByIncome, Income: tiny, Family: 29},
		{Kind: api.Forgive},
		{Kind: api.Forgive, Day: api.MaxDay, Key: math.MaxUint32},
	}
	for _, kind := range []int{api.Consolidate, api.Discharge} {
		l = append(l, api.Event{Kind: kind, Loan: 1}, api.Event{Kind: kind, Day: 9, Key: 8, Loan: 1000})
	}
	for status := 1; status <= 5; status++ {
		l = append(l, api.Event{Kind: api.Status, Loan: 1, Status: status}, api.Event{Kind: api.Status, Day: 31, Key: 256, Loan: 1000, Status: status})
	}
	return l
}

var ints = []int{0, 1, 2, 3, 4, 5, 6, 7, 8, 9, 10, 29, 30, 31, 255, 256, 257, 260, 261, 999, 1000, 1001, 65535, 65536, 65537, api.MaxDay - 1, api.MaxDay, api.MaxDay + 1, math.MaxUint32, 1 << 32, 1<<32 + 1, math.MaxInt, -1, -2, -5, -255, -256, math.MinInt, math.MinInt + 1}

func amounts() []int64 {
	l := []int64{api.MaxAmount - 1, api.MaxAmount, api.MaxAmount + 1, api.MaxMoney, api.MaxMoney + 1, math.MaxInt64, math.MinInt64, -api.MaxAmount}
	for _, n := range ints {
		l = append(l, int64(n))
	}
	return l
}

func floats() []float64 {
	l := []float64{0, minus0, tiny, -tiny, 0.00005, 0.005, 1, -1, 12.5, 24.9, 25.1, 100, 1e300, math.MaxFloat64, -math.MaxFloat64, math.Inf(1), math.Inf(-1), math.NaN()}
	for _, bits := range []uint64{0x7ff0000000000001, 0x7ff8000000000000, 0xfff8000000000000, 0xffffffffffffffff} {
		l = append(l, math.Float64frombits(bits))
	}
	for _, f := range []float64{25, rate, 10000000, income} {
		l = append(l, math.Nextafter(f, 0), f, math.Nextafter(f, math.Inf(1)))
	}
	return l
}

// changed is e with other values in one field, for each field and for each value.
func changed(e api.Event) []api.Event {
	var l []api.Event
	for _, n := range ints {
		for _, set := range []func(e *api.Event){
			func(e *api.Event) { e.Kind = n },
			func(e *api.Event) { e.Day = n },
			func(e *api.Event) { e.Key = uint32(n) },
			func(e *api.Event) { e.Loan = n },
			func(e *api.Event) { e.Status = n },
			func(e *api.Event) { e.Plan = n },
			func(e *api.Event) { e.Family = n },
		} {
			x := e
			set(&x)
			l = append(l, x)
		}
	}
	for _, n := range amounts() {
		x := e
		x.Amount = n
		l = append(l, x)
	}
	for _, f := range floats() {
		x, y := e, e
		x.Rate, y.Income = f, f
		l = append(l, x, y)
	}
	e.Subsidised = !e.Subsidised
	return append(l, e)
}

// all are events with a form, and what one changed field makes of them.
func all() []api.Event {
	l := append(fitting(), api.Event{})
	for _, e := range l {
		l = append(l, changed(e)...)
	}
	return l
}

// some is any event, most often one that nearly has a form.
func some(r *rand.Rand) api.Event {
	l := fitting()
	e := l[r.Intn(len(l))]
	for range r.Intn(3) {
		more := changed(e)
		e = more[r.Intn(len(more))]
	}
	return e
}

// someGood is any event that has a form.
func someGood(r *rand.Rand) api.Event {
	e := api.Event{Kind: 1 + r.Intn(8), Day: r.Intn(api.MaxDay + 1), Key: r.Uint32() >> r.Intn(32)}
	switch e.Kind {
	case api.Disburse:
		e.Rate, e.Subsidised = r.Float64()*25, r.Intn(2) == 0
	case api.Status:
		e.Status = 1 + r.Intn(5)
	case api.Enroll:
		e.Plan = 1 + r.Intn(4)
		if e.Plan == api.ByIncome {
			e.Income, e.Family = r.Float64()*1e7, 1+r.Intn(30)
		}
	}
	if slices.Contains([]int{api.Disburse, api.Status, api.Fee, api.Consolidate, api.Discharge}, e.Kind) {
		e.Loan = 1 + r.Intn(1000)
	}
	if slices.Contains([]int{api.Disburse, api.Payment, api.Fee}, e.Kind) {
		e.Amount = 1 + r.Int63n(api.MaxAmount)
	}
	return e
}

func bytesFrom(t *testing.T, digits string) string {
	t.Helper()
	b, err := hex.DecodeString(strings.ReplaceAll(digits, " ", ""))
	if err != nil {
		t.Fatal(err)
	}
	return string(b)
}

// P9.1

func TestEventsThatHaveAForm(t *testing.T) {
	for _, e := range fitting() {
		if !event.Good(e) {
			t.Errorf("%+v has no form", e)
		}
	}
}

func TestEventsThatHaveNone(t *testing.T) {
	disburse := api.Event{Kind: api.Disburse, Loan: 1, Amount: 1, Rate: 5}
	byIncome := api.Event{Kind: api.Enroll, Plan: api.ByIncome, Income: 20000, Family: 2}
	for _, x := range []struct {
		why    string
		e      api.Event
		change func(e *api.Event)
	}{
		{"nothing", api.Event{}, func(e *api.Event) {}},
		{"a kind below all", disburse, func(e *api.Event) { e.Kind = 0 }},
		{"a kind below 0", disburse, func(e *api.Event) { e.Kind = -1 }},
		{"a kind beyond all", api.Event{Kind: 9}, func(e *api.Event) {}},
		{"a kind beyond a byte", disburse, func(e *api.Event) { e.Kind += 256 }},
		{"a kind beyond all words", disburse, func(e *api.Event) { e.Kind = math.MinInt }},
		{"a day ahead of all", disburse, func(e *api.Event) { e.Day = -1 }},
		{"a day behind all", disburse, func(e *api.Event) { e.Day = api.MaxDay + 1 }},
		{"a day beyond its bytes", disburse, func(e *api.Event) { e.Day = 1 << 32 }},
		{"no loan", disburse, func(e *api.Event) { e.Loan = 0 }},
		{"a loan below 0", disburse, func(e *api.Event) { e.Loan = -1 }},
		{"a loan too great", disburse, func(e *api.Event) { e.Loan = 1001 }},
		{"a loan beyond its bytes", disburse, func(e *api.Event) { e.Loan = 65537 }},
		{"no amount", disburse, func(e *api.Event) { e.Amount = 0 }},
		{"an amount below 0", disburse, func(e *api.Event) { e.Amount = -1 }},
		{"an amount too great", disburse, func(e *api.Event) { e.Amount = api.MaxAmount + 1 }},
		{"a rate of -0", disburse, func(e *api.Event) { e.Rate = minus0 }},
		{"a rate below 0", disburse, func(e *api.Event) { e.Rate = -5 }},
		{"a rate that is none", disburse, func(e *api.Event) { e.Rate = math.NaN() }},
		{"a rate that is endless", disburse, func(e *api.Event) { e.Rate = math.Inf(1) }},
		{"a rate just too great", disburse, func(e *api.Event) { e.Rate = rate }},
		{"a rate that is too great", disburse, func(e *api.Event) { e.Rate = 25.0001 }},
		{"a rate of a hundred", disburse, func(e *api.Event) { e.Rate = 100 }},
		{"a rate that is no rate", disburse, func(e *api.Event) { e.Rate = 101 }},
		{"a disbursement's income", disburse, func(e *api.Event) { e.Income = 1 }},
		{"a disbursement's income of -0", disburse, func(e *api.Event) { e.Income = minus0 }},
		{"a disbursement's status", disburse, func(e *api.Event) { e.Status = 1 }},
		{"a disbursement's plan", disburse, func(e *api.Event) { e.Plan = 1 }},
		{"a disbursement's family", disburse, func(e *api.Event) { e.Family = 1 }},
		{"no plan", byIncome, func(e *api.Event) { e.Plan = 0 }},
		{"a plan beyond all", byIncome, func(e *api.Event) { e.Plan = 5 }},
		{"a plan beyond a byte", byIncome, func(e *api.Event) { e.Plan += 256 }},
		{"no family", byIncome, func(e *api.Event) { e.Family = 0 }},
		{"a family too great", byIncome, func(e *api.Event) { e.Family = 31 }},
		{"an income of -0", byIncome, func(e *api.Event) { e.Income = minus0 }},
		{"an income below 0", byIncome, func(e *api.Event) { e.Income = -1 }},
		{"an income that is none", byIncome, func(e *api.Event) { e.Income = math.NaN() }},
		{"an income that is endless", byIncome, func(e *api.Event) { e.Income = math.Inf(1) }},
		{"an income just too great", byIncome, func(e *api.Event) { e.Income = income }},
		{"an income that is no money", byIncome, func(e *api.Event) { e.Income = 1e300 }},
		{"an income's rate", byIncome, func(e *api.Event) { e.Rate = 5 }},
		{"an income of another plan", byIncome, func(e *api.Event) { e.Plan, e.Family = api.Standard, 0 }},
		{"a family of another plan", byIncome, func(e *api.Event) { e.Plan, e.Income = api.Graduated, 0 }},
		{"an income of -0 of another plan", byIncome, func(e *api.Event) { e.Plan, e.Income, e.Family = api.Extended, minus0, 0 }},
		{"no status", api.Event{Kind: api.Status, Loan: 1}, func(e *api.Event) {}},
		{"a status beyond all", api.Event{Kind: api.Status, Loan: 1, Status: 6}, func(e *api.Event) {}},
		{"a status of no loan", api.Event{Kind: api.Status, Status: 5}, func(e *api.Event) {}},
		{"a payment to a loan", api.Event{Kind: api.Payment, Amount: 5, Loan: 1}, func(e *api.Event) {}},
		{"a payment that is subsidised", api.Event{Kind: api.Payment, Amount: 5, Subsidised: true}, func(e *api.Event) {}},
		{"a payment with a rate of -0", api.Event{Kind: api.Payment, Amount: 5, Rate: minus0}, func(e *api.Event) {}},
		{"a payment with a rate that is none", api.Event{Kind: api.Payment, Amount: 5, Rate: math.NaN()}, func(e *api.Event) {}},
		{"a payment of nothing", api.Event{Kind: api.Payment}, func(e *api.Event) {}},
		{"a fee of no loan", api.Event{Kind: api.Fee, Amount: 5}, func(e *api.Event) {}},
		{"a fee of nothing", api.Event{Kind: api.Fee, Loan: 5}, func(e *api.Event) {}},
		{"a forgiving of a loan", api.Event{Kind: api.Forgive, Loan: 1}, func(e *api.Event) {}},
		{"a forgiving of an amount", api.Event{Kind: api.Forgive, Amount: 1}, func(e *api.Event) {}},
		{"a consolidation without a loan", api.Event{Kind: api.Consolidate}, func(e *api.Event) {}},
		{"a consolidation of an amount", api.Event{Kind: api.Consolidate, Loan: 1, Amount: 1}, func(e *api.Event) {}},
		{"a discharge of no loan", api.Event{Kind: api.Discharge}, func(e *api.Event) {}},
		{"a discharge with a status", api.Event{Kind: api.Discharge, Loan: 1, Status: 5}, func(e *api.Event) {}},
	} {
		e := x.e
		x.change(&e)
		if event.Good(e) {
			t.Errorf("%s: %+v has a form", x.why, e)
		}
		if b, err := event.Encode(e); b != "" || err != api.ErrForm {
			t.Errorf("%s: Encode is %x, %v", x.why, b, err)
		}
	}
}

func TestRatesAndIncomesAtTheirEdges(t *testing.T) {
	for _, x := range []struct {
		f    float64
		want bool
	}{
		{25, true}, {25.00004, true}, {25.00006, false}, {math.Nextafter(rate, 0), true}, {rate, false}, {math.Nextafter(rate, 100), false},
	} {
		if event.Good(api.Event{Kind: api.Disburse, Loan: 1, Amount: 1, Rate: x.f}) != x.want {
			t.Errorf("a rate of %v: not %v", x.f, x.want)
		}
	}
	for _, x := range []struct {
		f    float64
		want bool
	}{
		{10000000, true}, {10000000.004, true}, {10000000.006, false}, {math.Nextafter(income, 0), true}, {income, false}, {math.Nextafter(income, 1e9), false},
	} {
		if event.Good(api.Event{Kind: api.Enroll, Plan: api.ByIncome, Income: x.f, Family: 1}) != x.want {
			t.Errorf("an income of %v: not %v", x.f, x.want)
		}
	}
}

func TestFormsByWords(t *testing.T) {
	with := 0
	check := func(e api.Event) {
		t.Helper()
		want, wantErr := bytesOf(e), api.OK
		if !hasForm(e) {
			want, wantErr = "", api.ErrForm
		} else {
			with++
		}
		if event.Good(e) != (wantErr == api.OK) {
			t.Fatalf("Good(%+v) is %v", e, event.Good(e))
		}
		if b, err := event.Encode(e); b != want || err != wantErr {
			t.Fatalf("Encode(%+v) is %x, %v, not %x, %v", e, b, err, want, wantErr)
		}
	}
	for _, e := range all() {
		check(e)
	}
	r := rand.New(rand.NewSource(1))
	for range 20000 {
		check(some(r))
		check(someGood(r))
	}
	if with < 25000 {
		t.Errorf("just %d had a form", with)
	}
}

func TestEncodedByCases(t *testing.T) {
	for _, x := range []struct {
		e    api.Event
		want string
	}{
		{api.Event{Kind: api.Payment, Amount: 5}, "03 00000000 00000000 0000 0500000000000000 0000000000000000 0000000000000000 00 00 00 00"},
		{
			api.Event{Kind: api.Disburse, Day: 0x01020304 >> 8, Key: 0xdeadbeef, Loan: 0x0123, Amount: 0x12345678, Rate: 1, Subsidised: true},
			"01 03020100 efbeadde 2301 7856341200000000 000000000000f03f 0000000000000000 01 00 00 00",
		},
		{api.Event{Kind: api.Disburse, Loan: 1, Amount: 1, Rate: tiny}, "01 00000000 00000000 0100 0100000000000000 0100000000000000 0000000000000000 00 00 00 00"},
		{api.Event{Kind: api.Status, Day: 1, Key: 2, Loan: 1000, Status: api.Repay}, "02 01000000 02000000 e803 0000000000000000 0000000000000000 0000000000000000 00 05 00 00"},
		{api.Event{Kind: api.Fee, Day: api.MaxDay, Key: 1, Loan: 2, Amount: api.MaxAmount}, "04 6a560100 01000000 0200 00ca9a3b00000000 0000000000000000 0000000000000000 00 00 00 00"},
		{api.Event{Kind: api.Enroll, Plan: api.Graduated}, "05 00000000 00000000 0000 0000000000000000 0000000000000000 0000000000000000 00 00 03 00"},
		{api.Event{Kind: api.Enroll, Plan: api.ByIncome, Income: 2.5, Family: 30}, "05 00000000 00000000 0000 0000000000000000 0000000000000000 0000000000000440 00 00 04 1e"},
		{api.Event{Kind: api.Forgive, Key: 1}, "06 00000000 01000000 0000 0000000000000000 0000000000000000 0000000000000000 00 00 00 00"},
		{api.Event{Kind: api.Consolidate, Loan: 9}, "07 00000000 00000000 0900 0000000000000000 0000000000000000 0000000000000000 00 00 00 00"},
		{api.Event{Kind: api.Discharge, Loan: 9}, "08 00000000 00000000 0900 0000000000000000 0000000000000000 0000000000000000 00 00 00 00"},
	} {
		want := bytesFrom(t, x.want)
		if len(want) != eventSize {
			t.Fatalf("%d bytes", len(want))
		}
		if b, err := event.Encode(x.e); b != want || err != api.OK {
			t.Errorf("Encode(%+v) is %x, %v, not %x", x.e, b, err, want)
		}
		if e, err := event.Decode(want); !alike(e, x.e) || err != api.OK {
			t.Errorf("Decode(%x) is %+v, %v, not %+v", want, e, err, x.e)
		}
	}
}

// decodes holds Decode against what the words say of b.
func decodes(t *testing.T, b string) bool {
	t.Helper()
	want, ok := read(b)
	wantErr := api.OK
	if !ok {
		wantErr = api.ErrForm
	}
	if e, err := event.Decode(b); !alike(e, want) || err != wantErr {
		t.Fatalf("Decode(%x) is %+v, %v, not %+v, %v", b, e, err, want, wantErr)
	}
	return ok
}

func TestDecodedOfOtherLengths(t *testing.T) {
	for _, b := range []string{"", "\x00", "\x03", strings.Repeat("\x00", eventSize), strings.Repeat("\xff", eventSize), strings.Repeat("\x03", 1<<20)} {
		if e, err := event.Decode(b); e != (api.Event{}) || err != api.ErrForm {
			t.Errorf("Decode of %d bytes is %+v, %v", len(b), e, err)
		}
	}
	for _, e := range fitting() {
		b := bytesOf(e)
		for n := range len(b) {
			if decodes(t, b[:n]) || decodes(t, b[n:]+b[:n]+b[:1]) {
				t.Fatal("a piece of an event is one")
			}
		}
		for _, more := range []string{"\x00", "\x01", "abc", b, strings.Repeat("\x00", 100)} {
			if decodes(t, b+more) {
				t.Fatal("an event with more behind it is one")
			}
		}
	}
}

func TestDecodedOfBytesThatWereChanged(t *testing.T) {
	for _, e := range fitting() {
		b := bytesOf(e)
		for i := range len(b) {
			for v := range 256 {
				decodes(t, b[:i]+string([]byte{byte(v)})+b[i+1:])
			}
		}
	}
}

func TestDecodedOfWrongFields(t *testing.T) {
	field := func(b string, at int, v uint64, size int) string {
		return b[:at] + string(binary.LittleEndian.AppendUint64(nil, v)[:size]) + b[at+size:]
	}
	const kindAt, dayAt, loanAt, amountAt, rateAt, incomeAt, subAt = 0, 1, 9, 11, 19, 27, 35
	disburse := bytesOf(api.Event{Kind: api.Disburse, Day: 3, Loan: 4, Amount: 5, Rate: 6, Subsidised: true})
	byIncome := bytesOf(api.Event{Kind: api.Enroll, Plan: api.ByIncome, Income: 6, Family: 5})
	payment := bytesOf(api.Event{Kind: api.Payment, Amount: 5})
	minus := math.Float64bits(minus0)
	for i, b := range []string{
		field(disburse, kindAt, 0, 1), field(disburse, kindAt, 9, 1), field(disburse, kindAt, 255, 1),
		field(disburse, dayAt, api.MaxDay+1, 4), field(disburse, dayAt, math.MaxUint32, 4), field(disburse, dayAt, 1<<31, 4),
		field(disburse, loanAt, 0, 2), field(disburse, loanAt, 1001, 2), field(disburse, loanAt, 65535, 2),
		field(disburse, amountAt, 0, 8), field(disburse, amountAt, api.MaxAmount+1, 8), field(disburse, amountAt, 1<<63, 8), field(disburse, amountAt, 1<<63+5, 8), field(disburse, amountAt, math.MaxUint64, 8),
		field(disburse, rateAt, minus, 8), field(disburse, rateAt, math.Float64bits(rate), 8), field(disburse, rateAt, math.Float64bits(-6), 8), field(disburse, rateAt, 0x7ff0000000000000, 8),
		field(disburse, rateAt, 0x7ff0000000000001, 8), field(disburse, rateAt, 0x7ff8000000000001, 8), field(disburse, rateAt, math.MaxUint64, 8),
		field(disburse, subAt, 2, 1), field(disburse, subAt, 255, 1), field(disburse, incomeAt, minus, 8), field(disburse, incomeAt, 1, 8),
		field(byIncome, incomeAt, minus, 8), field(byIncome, incomeAt, 0x7ff8000000000001, 8), field(byIncome, incomeAt, 0x7ff0000000000000, 8), field(byIncome, incomeAt, 1<<63+1, 8), field(byIncome, incomeAt, math.Float64bits(income), 8),
		field(payment, rateAt, minus, 8), field(payment, rateAt, 0x7ff8000000000001, 8), field(payment, incomeAt, minus, 8), field(payment, incomeAt, 0x7ff8000000000001, 8),
		field(payment, subAt, 1, 1), field(payment, subAt, 2, 1), field(payment, loanAt, 1, 2),
	} {
		if len(b) != eventSize {
			t.Fatalf("%d bytes", len(b))
		}
		if e, err := event.Decode(b); e != (api.Event{}) || err != api.ErrForm {
			t.Errorf("%d: Decode(%x) is %+v, %v", i, b, e, err)
		}
		if c, err := event.Open("\x00\x00\x00\x00\x00" + b); c != (api.Command{}) || err != api.ErrForm {
			t.Errorf("%d: Open of %x is %+v, %v", i, b, c, err)
		}
	}
}

func TestSame(t *testing.T) {
	nan := api.Event{Rate: math.NaN(), Income: math.NaN()}
	if !event.Same(nan, nan) || !event.Same(api.Event{}, api.Event{}) || !event.Same(api.Event{Rate: minus0}, api.Event{Rate: minus0}) {
		t.Error("an event is not the same as itself")
	}
	for i, x := range []struct{ a, b api.Event }{
		{api.Event{Kind: 1}, api.Event{}},
		{api.Event{Kind: 1}, api.Event{Kind: 257}},
		{api.Event{Day: 1}, api.Event{Day: 1<<32 + 1}},
		{api.Event{Key: 1}, api.Event{Key: 2}},
		{api.Event{Loan: 1}, api.Event{Loan: 65537}},
		{api.Event{Amount: math.MinInt64}, api.Event{}},
		{api.Event{Rate: 1}, api.Event{}},
		{api.Event{Rate: 1}, api.Event{Income: 1}},
		{api.Event{Rate: minus0}, api.Event{}},
		{api.Event{Income: minus0}, api.Event{}},
		{api.Event{Rate: minus0}, api.Event{Income: minus0}},
		{api.Event{Rate: math.NaN()}, api.Event{}},
		{api.Event{Rate: math.NaN()}, api.Event{Rate: math.Float64frombits(math.Float64bits(math.NaN()) + 1)}},
		{api.Event{Income: math.NaN()}, api.Event{Income: math.Copysign(math.NaN(), -1)}},
		{api.Event{Income: -1}, api.Event{Income: 1}},
		{api.Event{Income: 1}, api.Event{Income: math.Nextafter(1, 2)}},
		{api.Event{Subsidised: true}, api.Event{}},
		{api.Event{Status: 1}, api.Event{Status: 2}},
		{api.Event{Plan: 1}, api.Event{Plan: -1}},
		{api.Event{Family: 1}, api.Event{Family: 2}},
	} {
		if event.Same(x.a, x.b) || event.Same(x.b, x.a) || !event.Same(x.a, x.a) || !event.Same(x.b, x.b) {
			t.Errorf("%d: %+v, %+v", i, x.a, x.b)
		}
	}
}

func TestSameByWords(t *testing.T) {
	for _, e := range append(fitting(), api.Event{}) {
		for _, x := range changed(e) {
			if want := alike(e, x); event.Same(e, x) != want || event.Same(x, e) != want || !event.Same(x, x) {
				t.Fatalf("%+v, %+v: not %v", e, x, want)
			}
		}
	}
}

// P9.2

func TestCommandsByCases(t *testing.T) {
	payment := api.Event{Kind: api.Payment, Key: 7, Amount: 5}
	for i, x := range []struct {
		c    api.Command
		want string // of what is not fine nothing
	}{
		{api.Command{Key: 7, E: payment}, "00 07000000 03 00000000 07000000 0000 0500000000000000 0000000000000000 0000000000000000 00 00 00 00"},
		{api.Command{E: api.Event{Kind: api.Forgive}}, "00 00000000 06 00000000 00000000 0000 0000000000000000 0000000000000000 0000000000000000 00 00 00 00"},
		{api.Command{Key: math.MaxUint32, E: api.Event{Kind: api.Forgive, Key: math.MaxUint32}}, "00 ffffffff 06 00000000 ffffffff 0000 0000000000000000 0000000000000000 0000000000000000 00 00 00 00"},
		{api.Command{Undo: true, Key: 0x01020304, Of: 0xdeadbeef}, "01 04030201 efbeadde"},
		{api.Command{Undo: true}, "01 00000000 00000000"},
		{api.Command{Undo: true, Key: 5, Of: 5}, "01 05000000 05000000"},
		{api.Command{Undo: true, Key: math.MaxUint32, Of: math.MaxUint32}, "01 ffffffff ffffffff"},
		{api.Command{}, ""},
		{api.Command{Key: 7, Of: 1, E: payment}, ""},
		{api.Command{Key: 7, Of: 7, E: payment}, ""},
		{api.Command{Key: 8, E: payment}, ""},
		{api.Command{E: payment}, ""},
		{api.Command{Key: 7, E: api.Event{Kind: api.Payment, Amount: 5}}, ""},
		{api.Command{Key: 7, E: api.Event{Kind: api.Payment, Key: 7}}, ""},
		{api.Command{Key: 7, E: api.Event{Key: 7}}, ""},
		{api.Command{Key: 7, E: api.Event{Kind: api.Payment, Key: 7, Amount: 5, Rate: minus0}}, ""},
		{api.Command{Undo: true, Key: 7, E: payment}, ""},
		{api.Command{Undo: true, Key: 7, Of: 7, E: payment}, ""},
		{api.Command{Undo: true, Key: 7, Of: 1, E: api.Event{Key: 7}}, ""},
		{api.Command{Undo: true, Key: 7, Of: 1, E: api.Event{Kind: 1}}, ""},
		{api.Command{Undo: true, Key: 7, Of: 1, E: api.Event{Day: 1}}, ""},
		{api.Command{Undo: true, Key: 7, Of: 1, E: api.Event{Rate: minus0}}, ""},
		{api.Command{Undo: true, Key: 7, Of: 1, E: api.Event{Income: minus0}}, ""},
		{api.Command{Undo: true, Key: 7, Of: 1, E: api.Event{Income: math.NaN()}}, ""},
		{api.Command{Undo: true, Key: 7, Of: 1, E: api.Event{Subsidised: true}}, ""},
		{api.Command{Undo: true, Key: 7, Of: 1, E: api.Event{Family: -1}}, ""},
	} {
		want, wantErr := bytesFrom(t, x.want), api.OK
		if want == "" {
			wantErr = api.ErrForm
		}
		if event.Fine(x.c) != (want != "") {
			t.Errorf("%d: Fine(%+v) is %v", i, x.c, want == "")
		}
		if b, err := event.Pack(x.c); b != want || err != wantErr {
			t.Errorf("%d: Pack(%+v) is %x, %v, not %x, %v", i, x.c, b, err, want, wantErr)
		}
		if want == "" {
			continue
		}
		if c, err := event.Open(want); !alikeCommands(c, x.c) || err != api.OK {
			t.Errorf("%d: Open(%x) is %+v, %v, not %+v", i, want, c, err, x.c)
		}
	}
}

func TestCommandsByWords(t *testing.T) {
	check := func(c api.Command) {
		t.Helper()
		want, wantErr := commandBytes(c), api.OK
		if !isFine(c) {
			want, wantErr = "", api.ErrForm
		}
		if event.Fine(c) != (wantErr == api.OK) {
			t.Fatalf("Fine(%+v) is %v", c, event.Fine(c))
		}
		if b, err := event.Pack(c); b != want || err != wantErr {
			t.Fatalf("Pack(%+v) is %x, %v, not %x, %v", c, b, err, want, wantErr)
		}
	}
	for _, e := range all() {
		check(api.Command{Key: e.Key, E: e})
		check(api.Command{Key: e.Key + 1, E: e})
		check(api.Command{Key: e.Key, Of: 1, E: e})
		check(api.Command{Key: e.Key, Of: e.Key, E: e})
		check(api.Command{Undo: true, Key: e.Key, Of: 1, E: e})
		check(api.Command{Undo: true, Of: e.Key, E: e})
		check(api.Command{Undo: true, Key: e.Key, Of: uint32(e.Day)})
	}
}

// opens holds Open against what the words say of b.
func opens(t *testing.T, b string) bool {
	t.Helper()
	want, ok := readCommand(b)
	wantErr := api.OK
	if !ok {
		wantErr = api.ErrForm
	}
	if c, err := event.Open(b); !alikeCommands(c, want) || err != wantErr {
		t.Fatalf("Open(%x) is %+v, %v, not %+v, %v", b, c, err, want, wantErr)
	}
	return ok
}

// commands are fine ones.
func commands() []api.Command {
	l := []api.Command{{Undo: true}, {Undo: true, Key: 1, Of: 2}, {Undo: true, Key: math.MaxUint32, Of: math.MaxUint32 - 1}}
	for _, e := range fitting() {
		l = append(l, api.Command{Key: e.Key, E: e})
	}
	return l
}

func TestOpenedOfOtherLengths(t *testing.T) {
	for _, b := range []string{"", "\x00", "\x01", "\x02", strings.Repeat("\x00", undoSize), strings.Repeat("\x00", eventSize), strings.Repeat("\x00", 5+eventSize), strings.Repeat("\x01", 1<<20)} {
		if c, err := event.Open(b); c != (api.Command{}) || err != api.ErrForm {
			t.Errorf("Open of %d bytes is %+v, %v", len(b), c, err)
		}
	}
	for _, c := range commands() {
		b := commandBytes(c)
		for n := range len(b) {
			if opens(t, b[:n]) {
				t.Fatal("a piece of a command is one")
			}
		}
		for _, more := range []string{"\x00", "\x01", "abc", b, strings.Repeat("\x00", 5+eventSize-undoSize)} {
			if opens(t, b+more) {
				t.Fatal("a command with more behind it is one")
			}
		}
	}
}

func TestOpenedOfBytesThatWereChanged(t *testing.T) {
	for _, c := range commands() {
		b := commandBytes(c)
		for i := range len(b) {
			for v := range 256 {
				opens(t, b[:i]+string([]byte{byte(v)})+b[i+1:])
			}
		}
	}
}

func TestOpenedOfAnotherSign(t *testing.T) {
	undo, payment := commandBytes(api.Command{Undo: true, Key: 1, Of: 2})[1:], commandBytes(api.Command{Key: 1, E: api.Event{Kind: api.Payment, Key: 1, Amount: 1}})[1:]
	for v := range 256 {
		sign := string([]byte{byte(v)})
		if opens(t, sign+undo) != (v == 1) || opens(t, sign+payment) != (v == 0) {
			t.Errorf("a command that begins with %d", v)
		}
	}
}

// P9.3

func TestEventsThereAndBack(t *testing.T) {
	r := rand.New(rand.NewSource(2))
	l := fitting()
	for range 20000 {
		l = append(l, someGood(r))
	}
	for _, e := range l {
		b, err := event.Encode(e)
		if len(b) != eventSize || err != api.OK {
			t.Fatalf("Encode(%+v) is %x, %v", e, b, err)
		}
		if x, err := event.Decode(b); !alike(x, e) || !event.Same(x, e) || err != api.OK {
			t.Fatalf("%+v came back as %+v, %v", e, x, err)
		}
		c := api.Command{Key: e.Key, E: e}
		if b, err = event.Pack(c); err != api.OK {
			t.Fatalf("Pack(%+v) is %v", c, err)
		}
		if x, err := event.Open(b); !alikeCommands(x, c) || err != api.OK {
			t.Fatalf("%+v came back as %+v, %v", c, x, err)
		}
		c = api.Command{Undo: true, Key: r.Uint32(), Of: e.Key}
		if b, err = event.Pack(c); len(b) != undoSize || err != api.OK {
			t.Fatalf("Pack(%+v) is %x, %v", c, b, err)
		}
		if x, err := event.Open(b); !alikeCommands(x, c) || err != api.OK {
			t.Fatalf("%+v came back as %+v, %v", c, x, err)
		}
	}
}

func TestBytesThereAndBack(t *testing.T) {
	r := rand.New(rand.NewSource(3))
	whole := 0
	for range 50000 {
		e := someGood(r)
		b := []byte(commandBytes(api.Command{Key: e.Key, E: e}))
		for range r.Intn(3) { // the higher bytes of a float may often be changed
			b[r.Intn(len(b))] ^= 1 << r.Intn(8)
		}
		if opens(t, string(b)) {
			whole++
			c, _ := event.Open(string(b))
			if s, err := event.Pack(c); s != string(b) || err != api.OK {
				t.Fatalf("%x came back as %x, %v", b, s, err)
			}
		}
		if decodes(t, string(b[5:])) {
			whole++
			e, _ := event.Decode(string(b[5:]))
			if s, err := event.Encode(e); s != string(b[5:]) || err != api.OK {
				t.Fatalf("%x came back as %x, %v", b[5:], s, err)
			}
		}
		for i := range b {
			b[i] = byte(r.Intn(1 << r.Intn(9)))
		}
		opens(t, string(b))
		opens(t, string(b[:undoSize]))
		decodes(t, string(b[5:]))
	}
	if whole < 20000 {
		t.Errorf("just %d were whole", whole)
	}
}

func TestNoTwoHaveTheSameBytes(t *testing.T) {
	of := map[string]api.Event{}
	for _, e := range all() {
		b, err := event.Encode(e)
		if err != api.OK {
			continue
		}
		if x, ok := of[b]; ok && !alike(x, e) {
			t.Fatalf("%+v and %+v are both %x", x, e, b)
		}
		of[b] = e
	}
}
