package measure_test

import (
	"math"
	"math/big"
	"math/rand"
	"slices"
	"testing"

	"scutage/api"
	"scutage/bucket"
	"scutage/enact"
	"scutage/measure"
	"scutage/period"
)

const (
	most  = api.MaxMoney
	whole = api.MaxRate
	last  = api.MaxYear
)

// wrong numbers of each kind: one past each bound, far past it, and what goes round when it is negated, multiplied or cut short.
var (
	common       = []int{1 << 62, math.MaxInt - 1, math.MaxInt, math.MinInt, math.MinInt + 1, math.MinInt + 5}
	wrongPeriods = append([]int{-1, -2, -4, -399, 400, 401, 403, 404, 800, 1 << 32, 1<<32 + 5, -1 << 32}, common...)
	wrongRates   = append([]int{-1, -2, -whole, whole + 1, whole + 2, 2 * whole, api.MaxFx, 1 << 32, 1<<32 + 5, -1 << 32}, common...)
	wrongMoney   = append([]int{most + 1, most + 2, -most - 1, -most - 2, 2 * most, -2 * most, 4 * most, -4 * most, 4*most + 1, 1 << 40, -1 << 40}, common...)
)

func b(class, year, amount int) api.Bucket {
	return api.Bucket{Class: class, Year: year, Amount: amount}
}

// enacted is an enact.Row in the order of Add's arguments.
func enacted(j string, year, rate, at int) enact.Row {
	return enact.Row{J: j, Year: year, Rate: rate, Period: at}
}

// table returns a Table to which the rows were added; each must be taken.
func table(t *testing.T, rows ...enact.Row) *enact.Table {
	t.Helper()
	x := enact.New()
	add(t, x, rows...)
	return x
}

func add(t *testing.T, x *enact.Table, rows ...enact.Row) {
	t.Helper()
	for _, r := range rows {
		if e := x.Add(r.J, r.Year, r.Rate, r.Period); e != api.OK {
			t.Fatalf("Add(%v) = %d", r, e)
		}
	}
}

// checkRates holds the answer of Rates, and that what it was given stays as it is; with an error there are no rates (R3).
func checkRates(t *testing.T, x *enact.Table, j string, rows []api.Bucket, at int, e api.Errno, want ...int) {
	t.Helper()
	before, given := x.Rows(), slices.Clone(rows)
	got, is := measure.Rates(x, j, rows, at)
	if !slices.Equal(got, want) || is != e {
		t.Errorf("%v: Rates(%q, %v, %d) = %v, error %d; want %v, error %d", before, j, given, at, got, is, want, e)
	}
	if !slices.Equal(rows, given) || !slices.Equal(x.Rows(), before) {
		t.Errorf("Rates(%q, %v, %d) has made %v of the rows, and %v of the Table", j, given, at, rows, x.Rows())
	}
}

func mustRates(t *testing.T, x *enact.Table, j string, rows []api.Bucket, at int, want ...int) {
	t.Helper()
	checkRates(t, x, j, rows, at, api.OK, want...)
}

func checkNext(t *testing.T, x *enact.Table, j string, at, want int, e api.Errno) {
	t.Helper()
	before := x.Rows()
	if got, is := measure.NextRate(x, j, at); got != want || is != e {
		t.Errorf("%v: NextRate(%q, %d) = %d, error %d; want %d, error %d", before, j, at, got, is, want, e)
	}
	if !slices.Equal(x.Rows(), before) {
		t.Errorf("NextRate(%q, %d) has made %v of the Table", j, at, x.Rows())
	}
}

// checkTemp holds the answer of Temp, and that both lists stay as they are.
func checkTemp(t *testing.T, rows []api.Bucket, rates []int, want int, e api.Errno) {
	t.Helper()
	given, before := slices.Clone(rows), slices.Clone(rates)
	if got, is := measure.Temp(rows, rates); got != want || is != e {
		t.Errorf("Temp(%v, %v) = %d, error %d; want %d, error %d", given[:min(len(given), 20)], before[:min(len(before), 20)], got, is, want, e)
	}
	if !slices.Equal(rows, given) || !slices.Equal(rates, before) {
		t.Errorf("Temp has made %v and %v of %v and %v", rows, rates, given, before)
	}
}

// amounts returns rows of different buckets with these amounts.
func amounts(l ...int) []api.Bucket {
	var rows []api.Bucket
	for i, n := range l {
		rows = append(rows, b(1+i%api.MaxClass, i%(last+1), n))
	}
	return rows
}

func checkLoss(t *testing.T, left, r, want int, e api.Errno) {
	t.Helper()
	if got, is := measure.Loss(left, r); got != want || is != e {
		t.Errorf("Loss(%d, %d) = %d, error %d; want %d, error %d", left, r, got, is, want, e)
	}
}

// share is n times r by a million, rounded to the nearest, halves away from 0.
func share(n, r int) int {
	x := new(big.Int).Mul(big.NewInt(int64(max(n, -n))), big.NewInt(int64(r)))
	x.Add(x, big.NewInt(500000))
	x.Div(x, big.NewInt(1000000))
	if n < 0 {
		x.Neg(x)
	}
	return int(x.Int64())
}

// spread returns numbers from low to high: near both ends, and some between.
func spread(low, high int) []int {
	var l []int
	for i := range min(12, high-low+1) {
		l = append(l, low+i, high-i)
	}
	for i, n := 0, 1; i < 60; i++ {
		n = (n*48271 + 11) % (high - low + 1)
		l = append(l, low+n)
	}
	return l
}

// TestRates is of P16.1, Rates: each row has the rate of its own year, in the order of the rows.
func TestRates(t *testing.T) {
	x := table(t, enacted("uk", 2, 300000, 0), enacted("uk", 5, 250000, 0), enacted("uk", 9, 0, 0), enacted("de", 0, 400000, 0), enacted("uk", last, whole, 0))
	rows := []api.Bucket{b(1, 2, 10), b(1, 4, -10), b(1, 5, 1), b(2, 8, 1), b(2, 9, 7), b(3, 98, 1), b(9, last, -1)}
	mustRates(t, x, "uk", rows, 8, 300000, 300000, 250000, 250000, 0, 0, whole)
	mustRates(t, x, "de", rows, 8, 400000, 400000, 400000, 400000, 400000, 400000, 400000)
	slices.Reverse(rows)
	mustRates(t, x, "uk", rows, 8, whole, 0, 0, 250000, 250000, 300000, 300000)
	mustRates(t, x, "uk", rows[:1], 8, whole)
	mustRates(t, x, "uk", []api.Bucket{b(1, 5, 1), b(1, 2, 1), b(1, 5, 2), b(2, 5, 1)}, 8, 250000, 300000, 250000, 250000)
}

// TestRatesPast is of P16.1, Rates: each period with each year: one before the period's year has the rate of that, and no other has.
func TestRatesPast(t *testing.T) {
	for _, step := range []int{0, 1, 37, 50, 98, last} { // two rates: that of years before the step, and that from it on
		x := table(t, enacted("uk", 0, 100, 0))
		if step > 0 {
			add(t, x, enacted("uk", step, 200, 0))
		}
		for at := range api.MaxPeriod + 1 {
			rows, want := []api.Bucket{b(1, -1, 1), b(1, math.MinInt, 1)}, []int(nil)
			for year := range last + 1 {
				rows = append(rows, b(1, year, 1))
			}
			for _, row := range rows {
				r := 100
				if step > 0 && (row.Year >= step || at/4 >= step) {
					r = 200
				}
				want = append(want, r)
			}
			mustRates(t, x, "uk", rows, at, want...)
		}
	}
}

// TestRatesKnown is of P16.1, Rates: what counts is what is known at the period, not what comes to be known later in its year, or in the row's.
func TestRatesKnown(t *testing.T) {
	x := table(t, enacted("uk", 0, 1, 9), enacted("uk", 5, 2, 14), enacted("uk", 5, 3, 15), enacted("uk", 5, 4, 20), enacted("uk", 3, 5, 21))
	rows := []api.Bucket{b(1, 1, 1), b(1, 3, 1), b(1, 5, 1), b(1, 6, 1)}
	for at := range 9 {
		checkRates(t, x, "uk", rows, at, api.ErrRate)
	}
	for at := 9; at < 14; at++ {
		mustRates(t, x, "uk", rows, at, 1, 1, 1, 1)
	}
	mustRates(t, x, "uk", rows, 14, 1, 1, 2, 2)
	for at := 15; at < 20; at++ {
		mustRates(t, x, "uk", rows, at, 1, 1, 3, 3)
	}
	mustRates(t, x, "uk", rows, 20, 4, 4, 4, 4) // 20 is in year 5
	mustRates(t, x, "uk", rows, 21, 4, 4, 4, 4)
	mustRates(t, x, "uk", rows, api.MaxPeriod, 4, 4, 4, 4)

	late := table(t, enacted("uk", 3, 5, 13), enacted("uk", 5, 2, 13))
	mustRates(t, late, "uk", rows, 13, 5, 5, 2, 2) // the rate of a year that has begun may be enacted in it
	mustRates(t, late, "uk", rows, 19, 5, 5, 2, 2)
	checkRates(t, late, "uk", rows, 12, api.ErrRate)
}

// TestRatesUnknown is of P16.1, Rates: one row without a rate, wherever it stands, and there are no rates at all (R3).
func TestRatesUnknown(t *testing.T) {
	x := table(t, enacted("uk", 7, 300000, 0), enacted("de", 0, 1, 0), enacted("u", 0, 1, 0))
	known := []api.Bucket{b(1, 7, 1), b(1, 8, 1), b(2, 9, 1)}
	mustKnow := []int{300000, 300000, 300000}
	mustRates(t, x, "uk", known, 27, mustKnow...) // 27 is in year 6
	mustRates(t, x, "uk", []api.Bucket{b(1, 6, 1)}, 28, 300000)
	checkRates(t, x, "uk", []api.Bucket{b(1, 6, 1)}, 27, api.ErrRate)
	for i := range len(known) + 1 {
		for _, year := range []int{6, 5, 0, -1, math.MinInt} {
			checkRates(t, x, "uk", slices.Insert(slices.Clone(known), i, b(1, year, 1)), 27, api.ErrRate)
			mustRates(t, x, "uk", slices.Insert(slices.Clone(known), i, b(1, year, 1)), 28, append(mustKnow, 300000)...)
		}
	}
	for _, j := range []string{"", "k", "ukx", "UK", "uk ", "fr", "\x00"} {
		checkRates(t, x, j, known, 27, api.ErrRate)
	}
	checkRates(t, enact.New(), "uk", known, api.MaxPeriod, api.ErrRate)
}

// TestRatesNone is of P16.1, Rates, and R4: of no rows there are no rates, and none that is not known.
func TestRatesNone(t *testing.T) {
	for _, x := range []*enact.Table{enact.New(), table(t, enacted("uk", 7, 300000, 30))} {
		for _, rows := range [][]api.Bucket{nil, {}, bucket.New().Rows()} {
			for _, j := range []string{"uk", "de", ""} {
				for at := range api.MaxPeriod + 1 {
					mustRates(t, x, j, rows, at)
				}
				for _, at := range wrongPeriods {
					checkRates(t, x, j, rows, at, api.ErrArg)
				}
			}
		}
	}
}

// TestRatesArg is of P16.1, Rates, and R2: what is no period, whether a rate is known or not.
func TestRatesArg(t *testing.T) {
	x := table(t, enacted("uk", 0, 300000, 0))
	for _, at := range wrongPeriods {
		checkRates(t, x, "uk", []api.Bucket{b(1, 5, 1)}, at, api.ErrArg)
		checkRates(t, x, "uk", []api.Bucket{b(1, last, 1), b(1, -1, 1)}, at, api.ErrArg)
		checkRates(t, x, "de", []api.Bucket{b(1, 5, 1)}, at, api.ErrArg)
	}
	mustRates(t, x, "uk", []api.Bucket{b(1, 5, 1)}, 0, 300000)
	mustRates(t, x, "uk", []api.Bucket{b(1, 5, 1)}, api.MaxPeriod, 300000)
}

// TestRatesYearAlone is of P16.1, Rates: of a row its year counts alone; a year beyond MaxYear has what enact has for it.
func TestRatesYearAlone(t *testing.T) {
	x := table(t, enacted("uk", 2, 300000, 0), enacted("uk", 5, 250000, 0), enacted("uk", last, 7, 0))
	for _, n := range append([]int{0, 1, -1, 9, 10, most}, wrongMoney...) {
		mustRates(t, x, "uk", []api.Bucket{b(n, 3, 1), b(1, 3, n), b(n, 5, n)}, 8, 300000, 300000, 250000)
	}
	for _, year := range []int{100, 101, 399, 1 << 32, 1 << 62, math.MaxInt - 1, math.MaxInt} {
		want, ok := x.Rate("uk", year, 8)
		if want != 7 || !ok {
			t.Fatalf("Rate(%d) = %d, %t", year, want, ok)
		}
		mustRates(t, x, "uk", []api.Bucket{b(1, year, 1)}, 8, want)
	}
}

// TestRatesMany is of P16.1, Rates: rows of any number.
func TestRatesMany(t *testing.T) {
	x := table(t, enacted("uk", 0, 1, 0), enacted("uk", 50, 2, 0))
	var rows []api.Bucket
	var want []int
	for i := range 5000 {
		rows = append(rows, b(1, i%(last+1), 1))
		want = append(want, 1+i%(last+1)/50)
	}
	mustRates(t, x, "uk", rows, 0, want...)
	checkRates(t, table(t, enacted("uk", 1, 1, 0)), "uk", append(rows[1:100], rows[0]), 0, api.ErrRate)
}

// TestRatesMemory is of R4 and R5: what lies behind the rows isn't read or written, nothing is kept, and each answer is new.
func TestRatesMemory(t *testing.T) {
	x := table(t, enacted("uk", 5, 300000, 0))
	memory := []api.Bucket{b(1, 5, 1), b(1, 6, 1), b(1, 0, 1), b(1, 7, 1)}
	given := slices.Clone(memory)
	mustRates(t, x, "uk", memory[:2], 0, 300000, 300000) // the third one has no rate
	mustRates(t, x, "uk", memory[3:], 0, 300000)
	mustRates(t, x, "uk", memory[:0], 0)
	if !slices.Equal(memory, given) {
		t.Errorf("Rates wrote %v", memory)
	}
	one, _ := measure.Rates(x, "uk", memory[:2], 0)
	two, _ := measure.Rates(x, "uk", memory[:2], 0)
	one[0], one[1] = -1, -2
	_ = append(one, -3)
	clear(memory)
	if !slices.Equal(two, []int{300000, 300000}) {
		t.Errorf("a list that was handed out became %v", two)
	}
	checkRates(t, x, "uk", memory[:2], 0, api.ErrRate) // years 0
	mustRates(t, x, "uk", given[:2], 0, 300000, 300000)
	add(t, x, enacted("uk", 6, 7, 1))
	mustRates(t, x, "uk", given[:2], 0, 300000, 300000)
	mustRates(t, x, "uk", given[:2], 1, 300000, 7)
	mustRates(t, table(t, enacted("uk", 5, 8, 0)), "uk", given[:2], 1, 8, 8)
}

// TestTemp is of P16.1, Temp: what will be taxed is below 0, what will be deducted is above.
func TestTemp(t *testing.T) {
	checkTemp(t, []api.Bucket{b(1, 5, 100)}, []int{250000}, -25, api.OK) // the document's
	checkTemp(t, []api.Bucket{b(1, 5, -100)}, []int{250000}, 25, api.OK)
	checkTemp(t, amounts(100, -40), []int{250000, 250000}, -15, api.OK)
	checkTemp(t, amounts(100, -40), []int{100000, 300000}, 2, api.OK)
	checkTemp(t, amounts(-40, 100), []int{100000, 300000}, -26, api.OK)
	checkTemp(t, amounts(1000, 200, -30), []int{300000, 0, whole}, -270, api.OK)
	checkTemp(t, amounts(5, 5), []int{0, 0}, 0, api.OK)
	checkTemp(t, amounts(0, 0), []int{0, whole}, 0, api.OK)
	for _, rows := range [][]api.Bucket{nil, {}} {
		checkTemp(t, rows, nil, 0, api.OK)
		checkTemp(t, rows, []int{}, 0, api.OK)
	}
}

// TestTempRounded is of P16.1, Temp: each row is rounded for itself, halves away from 0.
func TestTempRounded(t *testing.T) {
	for _, x := range []struct{ n, r, want int }{
		{1, 499999, 0}, {1, 500000, -1}, {1, 500001, -1}, {3, 500000, -2}, {5, 300000, -2}, {2, 250000, -1}, {5, 299999, -1}, {1, whole - 1, -1}, {499999, 1, 0}, {500000, 1, -1}, {1499999, 1, -1}, {1500000, 1, -2},
		{most, 0, 0}, {most, 1, -100000}, {most - 1, 1, -100000}, {most, whole - 1, 100000 - most}, {most - 1, whole, 1 - most}, {most, whole, -most},
	} {
		checkTemp(t, amounts(x.n), []int{x.r}, x.want, api.OK)
		checkTemp(t, amounts(-x.n), []int{x.r}, -x.want, api.OK)
		checkTemp(t, amounts(x.n, -x.n), []int{x.r, x.r}, 0, api.OK)
	}
	checkTemp(t, amounts(1, 1), []int{500000, 500000}, -2, api.OK)
	checkTemp(t, amounts(-1, -1), []int{500000, 500000}, 2, api.OK)
	checkTemp(t, amounts(1, 1, 1), []int{499999, 499999, 499999}, 0, api.OK)
	checkTemp(t, amounts(1, -3), []int{500000, 500000}, 1, api.OK)
}

// TestTempOver is of P16.1, Temp: the result is Money, or there is none; what sums come up on the way does not matter (R6).
func TestTempOver(t *testing.T) {
	all := []int{whole, whole, whole, whole, whole}
	for _, side := range []int{1, -1} {
		m, one := side*most, side
		checkTemp(t, amounts(m), all[:1], -m, api.OK)
		checkTemp(t, amounts(m-one, one), all[:2], -m, api.OK)
		checkTemp(t, amounts(m, one), all[:2], 0, api.ErrOver)
		checkTemp(t, amounts(one, m), all[:2], 0, api.ErrOver)
		checkTemp(t, amounts(m, m), all[:2], 0, api.ErrOver)
		checkTemp(t, amounts(m, m, m, m, m), all, 0, api.ErrOver)
		checkTemp(t, amounts(m, m, -m), all[:3], -m, api.OK)
		checkTemp(t, amounts(m, one, -one), all[:3], -m, api.OK)
		checkTemp(t, amounts(m, m, m, -m, -m), all, -m, api.OK)
		checkTemp(t, amounts(-m, -m, m, m), all[:4], 0, api.OK)
		checkTemp(t, amounts(m, one), []int{whole, 499999}, -m, api.OK)
		checkTemp(t, amounts(m, one), []int{whole, 500000}, 0, api.ErrOver)
		checkTemp(t, amounts(m, m), []int{500000, 500000}, -m, api.OK)
		checkTemp(t, amounts(m, m), []int{500000, 500001}, 0, api.ErrOver)
		checkTemp(t, amounts(m, m, m), []int{0, whole, 0}, -m, api.OK)
	}
}

// TestTempMany is of P16.1, Temp: rows of any number, whose sums are far beyond Money on the way.
func TestTempMany(t *testing.T) {
	const half = 50000
	l, rates := make([]int, 2*half+1), make([]int, 2*half+1)
	for i := range l {
		l[i], rates[i] = most, whole
	}
	checkTemp(t, amounts(l...), rates, 0, api.ErrOver)
	for i := range half {
		l[i] = -most
	}
	checkTemp(t, amounts(l...), rates, -most, api.OK)
	l[2*half] = -most
	checkTemp(t, amounts(l...), rates, most, api.OK)
	rates[2*half] = whole + 1
	checkTemp(t, amounts(l...), rates, 0, api.ErrArg)
}

// TestTempArg is of P16.1, Temp: other numbers of rows and rates, each wrong amount and each wrong rate, wherever it stands.
func TestTempArg(t *testing.T) {
	rows, rates := amounts(1, 2, 3, 4), []int{1, 2, 3, 4}
	for i := range 5 {
		for j := range 5 {
			e := api.ErrArg
			if i == j {
				e = api.OK
			}
			checkTemp(t, rows[:i], rates[:j], 0, e)
		}
	}
	checkTemp(t, nil, rates[:1], 0, api.ErrArg)
	checkTemp(t, rows[:1], nil, 0, api.ErrArg)
	for i := range 3 {
		for _, n := range wrongMoney {
			wrong := slices.Clone(rows[:3])
			wrong[i].Amount = n
			checkTemp(t, wrong, []int{0, 0, 0}, 0, api.ErrArg)
			checkTemp(t, wrong, []int{1, whole, 5}, 0, api.ErrArg)
		}
		for _, n := range wrongRates {
			wrong := slices.Clone(rates[:3])
			wrong[i] = n
			checkTemp(t, rows[:3], wrong, 0, api.ErrArg)
			checkTemp(t, amounts(0, 0, 0), wrong, 0, api.ErrArg)
		}
	}
}

// TestTempOrder is of P16.1, Temp, and R2: ErrArg ahead of ErrOver, also where what is wrong comes last.
func TestTempOrder(t *testing.T) {
	over := amounts(most, most, 1)
	checkTemp(t, over, []int{whole, whole, 0}, 0, api.ErrOver)
	checkTemp(t, over, []int{whole, whole}, 0, api.ErrArg)
	checkTemp(t, over, []int{whole, whole, 0, 0}, 0, api.ErrArg)
	checkTemp(t, over, []int{whole, whole, -1}, 0, api.ErrArg)
	checkTemp(t, over, []int{whole, whole, whole + 1}, 0, api.ErrArg)
	checkTemp(t, amounts(most, most, most+1), []int{whole, whole, 0}, 0, api.ErrArg)
	checkTemp(t, amounts(-most, -most, -most-1), []int{whole, whole, 0}, 0, api.ErrArg)
	checkTemp(t, amounts(most+1, -most), []int{whole, whole}, 0, api.ErrArg)
}

// TestTempAmountAlone is of P16.1, Temp: of a row its amount counts alone, also where there is no such bucket, or one twice.
func TestTempAmountAlone(t *testing.T) {
	for _, n := range append([]int{-1, 0, 10, 100}, wrongMoney...) {
		checkTemp(t, []api.Bucket{b(n, 5, 100), b(5, n, 100), b(n, n, -40)}, []int{250000, 250000, 250000}, -40, api.OK)
	}
	checkTemp(t, []api.Bucket{b(1, 5, 100), b(1, 5, 100)}, []int{250000, 500000}, -75, api.OK)
}

// TestTempMemory is of R4: what lies behind the lists isn't read or written.
func TestTempMemory(t *testing.T) {
	rows, rates := amounts(100, 200, most+1, 5), []int{250000, 500000, -1, whole}
	given, before := slices.Clone(rows), slices.Clone(rates)
	checkTemp(t, rows[:2], rates[:2], -125, api.OK)
	checkTemp(t, rows[3:], rates[3:], -5, api.OK)
	checkTemp(t, rows[:0], rates[:0], 0, api.OK)
	checkTemp(t, rows[:3], rates[:2], 0, api.ErrArg)
	checkTemp(t, rows[:2], rates[:2], -125, api.OK)
	if !slices.Equal(rows, given) || !slices.Equal(rates, before) {
		t.Errorf("Temp wrote %v, %v", rows, rates)
	}
}

// TestNextRate is of P16.1, NextRate: for each period the rate of the year after its year, for those of MaxYear that of MaxYear.
func TestNextRate(t *testing.T) {
	var many []*enact.Table // as many as are needed for a rate of each year
	for first := 0; first <= last; first += api.MaxRates {
		x := enact.New()
		for year := first; year <= min(first+api.MaxRates-1, last); year++ {
			add(t, x, enacted("uk", year, 1000+year, 0))
		}
		many = append(many, x)
	}
	for at := range api.MaxPeriod + 1 {
		next := min(at/4+1, last)
		checkNext(t, many[next/api.MaxRates], "uk", at, 1000+next, api.OK)
	}
	x := table(t, enacted("uk", 98, 1, 0), enacted("uk", last, 2, 0))
	for at, want := range map[int]int{387: 0, 388: 1, 389: 1, 391: 1, 392: 2, 395: 2, 396: 2, 399: 2} {
		e := api.OK
		if want == 0 {
			e = api.ErrRate
		}
		checkNext(t, x, "uk", at, want, e)
	}
}

// TestNextRateKnown is of P16.1, NextRate: as known at the period, not at the next one, nor in the next year.
func TestNextRateKnown(t *testing.T) {
	x := table(t, enacted("uk", 0, 1, 6), enacted("uk", 3, 2, 8), enacted("uk", 3, 3, 10), enacted("uk", 4, 0, 12), enacted("uk", 4, 5, 14), enacted("de", 0, 9, 0))
	for at, want := range []int{-1, -1, -1, -1, -1, -1, 1, 1, 2, 2, 3, 3, 0, 0, 5, 5, 5, 5} {
		if want < 0 {
			checkNext(t, x, "uk", at, 0, api.ErrRate)
		} else {
			checkNext(t, x, "uk", at, want, api.OK)
		}
	}
	checkNext(t, x, "de", 0, 9, api.OK)
	add(t, x, enacted("uk", 4, 6, 15))
	checkNext(t, x, "uk", 14, 5, api.OK)
	checkNext(t, x, "uk", 15, 6, api.OK)
}

// TestNextRateErrors is of P16.1, NextRate, and R2: what is no period, and ahead of it that no rate is known.
func TestNextRateErrors(t *testing.T) {
	x := table(t, enacted("uk", 0, 300000, 0), enacted("fr", 8, 1, 0), enacted("it", 0, 1, api.MaxPeriod))
	for _, at := range wrongPeriods {
		for _, j := range []string{"uk", "de", ""} {
			checkNext(t, x, j, at, 0, api.ErrArg)
			checkNext(t, enact.New(), j, at, 0, api.ErrArg)
		}
	}
	for at := range api.MaxPeriod + 1 {
		for _, j := range []string{"de", "", "u", "ukx", "UK"} {
			checkNext(t, x, j, at, 0, api.ErrRate)
		}
		checkNext(t, enact.New(), "uk", at, 0, api.ErrRate)
		checkNext(t, x, "uk", at, 300000, api.OK)
		if at < 28 { // the last period whose next year is before 8 is 27
			checkNext(t, x, "fr", at, 0, api.ErrRate)
		} else {
			checkNext(t, x, "fr", at, 1, api.OK)
		}
		if at < api.MaxPeriod {
			checkNext(t, x, "it", at, 0, api.ErrRate)
		}
	}
	checkNext(t, x, "it", api.MaxPeriod, 1, api.OK)
}

// TestLoss is of P16.1, Loss: the share of what is left, rounded to the nearest, halves up.
func TestLoss(t *testing.T) {
	for _, x := range []struct{ left, r, want int }{
		{0, 0, 0}, {0, 1, 0}, {0, whole, 0}, {1, 0, 0}, {1, 499999, 0}, {1, 500000, 1}, {1, whole, 1}, {10, 250000, 3}, {9, 250000, 2}, {100, 250000, 25}, {5, 300000, 2}, {4, 300000, 1}, {499999, 1, 0}, {500000, 1, 1}, {1499999, 1, 1}, {1500000, 1, 2},
		{most, 0, 0}, {most, 1, 100000}, {most - 1, 1, 100000}, {most - 500001, 1, 99999}, {most, whole - 1, most - 100000}, {most - 1, whole, most - 1}, {most, whole, most},
	} {
		checkLoss(t, x.left, x.r, x.want, api.OK)
	}
	for _, left := range spread(0, most) {
		for _, r := range spread(0, whole) {
			checkLoss(t, left, r, share(left, r), api.OK)
		}
	}
}

// TestLossArg is of P16.1, Loss: each argument past its bounds, alone and with the other.
func TestLossArg(t *testing.T) {
	wrongLeft := append([]int{-1, -2, -500000, -most}, wrongMoney...)
	for _, left := range wrongLeft {
		for _, r := range append([]int{0, 1, 500000, whole}, wrongRates...) {
			checkLoss(t, left, r, 0, api.ErrArg)
		}
	}
	for _, r := range wrongRates {
		for _, left := range []int{0, 1, 1000000, most} {
			checkLoss(t, left, r, 0, api.ErrArg)
		}
	}
}

// known is the document's words for enact.Rate: of the rows that count those with the greatest year, of these the one with the greatest period.
func known(rows []enact.Row, j string, year, at int) (int, bool) {
	best, found := enact.Row{}, false
	for _, r := range rows {
		if r.J != j || r.Period > at || r.Year > year {
			continue
		}
		if !found || r.Year > best.Year || r.Year == best.Year && r.Period > best.Period {
			best, found = r, true
		}
	}
	return best.Rate, found
}

// wordsRates is the document's words for Rates.
func wordsRates(known func(year int) (int, bool), rows []api.Bucket, at int) ([]int, api.Errno) {
	if at < 0 || at > 399 {
		return nil, api.ErrArg
	}
	var rates []int
	for _, row := range rows {
		year := row.Year
		if year < at/4 {
			year = at / 4
		}
		r, ok := known(year)
		if !ok {
			return nil, api.ErrRate
		}
		rates = append(rates, r)
	}
	return rates, api.OK
}

// wordsTemp is the document's words for Temp, on numbers without bounds.
func wordsTemp(rows []api.Bucket, rates []int) (int, api.Errno) {
	if len(rows) != len(rates) {
		return 0, api.ErrArg
	}
	sum := new(big.Int)
	for i, row := range rows {
		if row.Amount < -most || row.Amount > most || rates[i] < 0 || rates[i] > 1000000 {
			return 0, api.ErrArg
		}
		sum.Sub(sum, big.NewInt(int64(share(row.Amount, rates[i]))))
	}
	if sum.CmpAbs(big.NewInt(most)) > 0 {
		return 0, api.ErrOver
	}
	return int(sum.Int64()), api.OK
}

// wordsNext is the document's words for NextRate.
func wordsNext(known func(year int) (int, bool), at int) (int, api.Errno) {
	if at < 0 || at > 399 {
		return 0, api.ErrArg
	}
	year := at/4 + 1
	if at/4 == 99 {
		year = 99
	}
	if r, ok := known(year); ok {
		return r, api.OK
	}
	return 0, api.ErrRate
}

// someTable returns a Table of up to MaxRates rows of two places.
func someTable(r *rand.Rand) *enact.Table {
	x := enact.New()
	for range r.Intn(api.MaxRates + 1) {
		// Most rates are of early years, and enacted early; one that is there is refused, which does no harm.
		x.Add([]string{"uk", "de"}[r.Intn(2)], r.Intn(1+r.Intn(last+1)), []int{0, whole, r.Intn(whole + 1)}[r.Intn(3)], r.Intn(1+r.Intn(api.MaxPeriod+1)))
	}
	return x
}

// someRows returns rows as a Register tells them, of small or great amounts.
func someRows(r *rand.Rand, great bool) []api.Bucket {
	x := bucket.New()
	for range r.Intn(20) {
		n := r.Intn(60) - 30
		if great {
			n = r.Intn(2*most+1) - most
		}
		x.Move(1+r.Intn(api.MaxClass), r.Intn(last+1), n)
	}
	return x.Rows()
}

// TestModel is of P16.1 and R5: random Tables and Registers against the document's words.
func TestModel(t *testing.T) {
	r := rand.New(rand.NewSource(16))
	seen := map[api.Errno]int{}
	for run := range 20000 {
		x, rows, at, j := someTable(r), someRows(r, run%2 == 0), r.Intn(api.MaxPeriod+5)-2, []string{"uk", "de", "fr"}[r.Intn(20)/9]
		of := func(year int) (int, bool) { return known(x.Rows(), j, year, at) }
		rates, e := wordsRates(of, rows, at)
		checkRates(t, x, j, rows, at, e, rates...)
		next, ne := wordsNext(of, at)
		checkNext(t, x, j, at, next, ne)
		if e == api.OK {
			want, te := wordsTemp(rows, rates)
			checkTemp(t, rows, rates, want, te)
		}
		seen[e]++
		if t.Failed() {
			t.FailNow()
		}
	}
	for _, e := range []api.Errno{api.OK, api.ErrArg, api.ErrRate} {
		if seen[e] < 100 {
			t.Errorf("error %d came up %d times", e, seen[e])
		}
	}
}

// TestTempModel is of P16.1 and R6: random lists, of great amounts and now and then a wrong one, against numbers without bounds.
func TestTempModel(t *testing.T) {
	r := rand.New(rand.NewSource(61))
	seen := map[api.Errno]int{}
	pick := func(l ...int) int { return l[r.Intn(len(l))] }
	for range 20000 {
		var l, rates []int
		for range r.Intn(8) {
			l = append(l, pick(most, -most, r.Intn(2*most+1)-most, r.Intn(60)-30))
			rates = append(rates, pick(0, 1, 500000, whole-1, whole, r.Intn(whole+1)))
		}
		if len(l) > 0 && r.Intn(20) == 0 {
			l[r.Intn(len(l))] = pick(wrongMoney...)
		}
		if len(l) > 0 && r.Intn(20) == 0 {
			rates[r.Intn(len(l))] = pick(wrongRates...)
		}
		if r.Intn(20) == 0 {
			rates = append(rates, 5)
		}
		want, e := wordsTemp(amounts(l...), rates)
		checkTemp(t, amounts(l...), rates, want, e)
		seen[e]++
	}
	for _, e := range []api.Errno{api.OK, api.ErrArg, api.ErrOver} {
		if seen[e] < 100 {
			t.Errorf("error %d came up %d times", e, seen[e])
		}
	}
}

// TestTogether is of P16.1: a Register measured over all periods, while its years go by and rates are enacted: one pass over the layers below.
func TestTogether(t *testing.T) {
	x := table(t, enacted("uk", 0, 300000, 0), enacted("uk", 2, 200000, 4))
	buckets := bucket.New()
	for _, row := range []api.Bucket{b(1, 0, 100), b(1, 1, -60), b(2, 2, 50), b(3, 3, -10)} {
		if e := buckets.Move(row.Class, row.Year, row.Amount); e != api.OK {
			t.Fatal(e)
		}
	}
	for year, want := range []int{-24, -20, -16, -16} { // in year 0 all at 30 %; in year 1 those of 2 and 3 at 20 %; then all
		for at := period.First(year); at < period.First(year+1); at++ {
			rates, e := measure.Rates(x, "uk", buckets.Rows(), at)
			if e != api.OK {
				t.Fatal(at, e)
			}
			checkTemp(t, buckets.Rows(), rates, want, api.OK)
		}
	}
	for at, want := range []int{30, 30, 30, 30, 20, 20, 20, 20} {
		r, e := measure.NextRate(x, "uk", at)
		if e != api.OK {
			t.Fatal(at, e)
		}
		checkLoss(t, 100, r, want, api.OK)
	}
}
