package remeasure_test

import (
	"math"
	"math/big"
	"math/rand"
	"slices"
	"testing"

	"scutage/api"
	"scutage/bucket"
	"scutage/enact"
	"scutage/measure"
	"scutage/remeasure"
	"scutage/roll"
)

const (
	most  = api.MaxMoney
	whole = api.MaxRate
	last  = api.MaxYear
)

// wrong numbers of each kind: one past each bound, far past it, and what goes round when it is negated, multiplied or cut short.
var (
	common     = []int{1 << 62, math.MaxInt - 1, math.MaxInt, math.MinInt, math.MinInt + 1, math.MinInt + 5}
	wrongRates = append([]int{-1, -2, -whole, whole + 1, whole + 2, 2 * whole, api.MaxFx, 1 << 32, 1<<32 + 5, -1 << 32}, common...)
	wrongMoney = append([]int{most + 1, most + 2, -most - 1, -most - 2, 2 * most, -2 * most, 4 * most, -4 * most, 4*most + 1, 1 << 40, -1 << 40}, common...)
)

func b(class, year, amount int) api.Bucket {
	return api.Bucket{Class: class, Year: year, Amount: amount}
}

// list returns ascending buckets with these amounts: of two such lists the buckets are the same ones, as far as both go.
func list(l ...int) []api.Bucket {
	var rows []api.Bucket
	for i, n := range l {
		rows = append(rows, b(1+i/(last+1), i%(last+1), n))
	}
	return rows
}

// rates is a list of rates, one for each row.
func rates(l ...int) []int { return l }

// checkTemp holds the answer of Temp, and that what it was given stays as it is; with an error there is no Change (R3).
func checkTemp(t *testing.T, opening, closing []api.Bucket, old, now []int, want remeasure.Change, e api.Errno) {
	t.Helper()
	o, c, was, is := slices.Clone(opening), slices.Clone(closing), slices.Clone(old), slices.Clone(now)
	if got, errno := remeasure.Temp(opening, closing, old, now); got != want || errno != e {
		t.Errorf("Temp(%v, %v, %v, %v) = %v, error %d; want %v, error %d", o[:min(len(o), 20)], c[:min(len(c), 20)], was[:min(len(was), 20)], is[:min(len(is), 20)], got, errno, want, e)
	}
	if !slices.Equal(opening, o) || !slices.Equal(closing, c) || !slices.Equal(old, was) || !slices.Equal(now, is) {
		t.Errorf("Temp has made %v, %v, %v, %v of %v, %v, %v, %v", opening, closing, old, now, o, c, was, is)
	}
}

func mustTemp(t *testing.T, opening, closing []api.Bucket, old, now []int, moved, byRates int) {
	t.Helper()
	checkTemp(t, opening, closing, old, now, remeasure.Change{Moved: moved, Rates: byRates}, api.OK)
}

func checkError(t *testing.T, opening, closing []api.Bucket, old, now []int, e api.Errno) {
	t.Helper()
	checkTemp(t, opening, closing, old, now, remeasure.Change{}, e)
}

// share is n times r by a million, rounded to the nearest, halves away from 0.
func share(n, r int) int {
	x := new(big.Int).Mul(big.NewInt(int64(max(n, -n))), big.NewInt(int64(r)))
	x.Add(x, big.NewInt(500000))
	x.Div(x, big.NewInt(1000000))
	if n < 0 {
		x.Neg(x)
	}
	return int(x.Int64())
}

// TestTemp is of P17.1, Temp: what did not move has the rates' part alone, what moved has its part at the new rate.
func TestTemp(t *testing.T) {
	mustTemp(t, list(100), list(100), rates(250000), rates(300000), 0, 5) // the document's
	mustTemp(t, list(100), list(100), rates(300000), rates(250000), 0, -5)
	mustTemp(t, list(-100), list(-100), rates(250000), rates(300000), 0, -5)
	mustTemp(t, list(-100), list(-100), rates(300000), rates(250000), 0, 5)
	mustTemp(t, list(100), list(140), rates(250000), rates(250000), 10, 0)
	mustTemp(t, list(100), list(60), rates(250000), rates(250000), -10, 0)
	mustTemp(t, list(100), list(140), rates(250000), rates(300000), 12, 5)
	mustTemp(t, list(100), list(140), rates(300000), rates(250000), 10, -5)
	mustTemp(t, list(-100), list(140), rates(300000), rates(200000), 48, 10)
	mustTemp(t, list(140), list(-100), rates(300000), rates(200000), -48, -14)
	mustTemp(t, list(100), list(100), rates(0), rates(whole), 0, 100)
	mustTemp(t, list(100), list(100), rates(whole), rates(0), 0, -100)
	mustTemp(t, list(100), list(0), rates(whole), rates(whole), -100, 0)
	mustTemp(t, list(0), list(100), rates(whole), rates(whole), 100, 0)
	mustTemp(t, list(0), list(0), rates(whole), rates(0), 0, 0)
}

// TestTempAlone is of P17.1, Temp: a bucket in one list alone: the closing one was 0, the opening one becomes 0.
func TestTempAlone(t *testing.T) {
	for _, none := range [][]api.Bucket{nil, {}} {
		mustTemp(t, list(100), none, rates(250000), rates(300000), -30, 5)
		mustTemp(t, list(-100), none, rates(250000), rates(300000), 30, -5)
		mustTemp(t, none, list(100), rates(250000), rates(300000), 30, 0)
		mustTemp(t, none, list(-100), rates(250000), rates(300000), -30, 0)
		mustTemp(t, none, none, nil, nil, 0, 0)
		mustTemp(t, none, none, rates(), nil, 0, 0)
		mustTemp(t, none, none, nil, rates(), 0, 0)
		mustTemp(t, none, none, rates(), rates(), 0, 0)
	}
}

// TestTempRows is of P17.1, Temp: each row of both lists has its own rates, in the order of Class, then Year, whichever list its bucket is in.
func TestTempRows(t *testing.T) {
	opening := []api.Bucket{b(1, 5, 1000), b(2, 3, -500), b(3, 0, 2000)}
	closing := []api.Bucket{b(1, 4, 100), b(1, 5, 1200), b(2, 4, 300), b(3, 0, 2000), b(9, last, -700)}
	old := rates(10000, 200000, 100000, 20000, 300000, 30000)
	now := rates(100000, 300000, 200000, 400000, 350000, 500000)
	// 1 4: +10; 1 5: 300 - 200, then 360 - 300; 2 3: -100 + 50, then 100; 2 4: 120; 3 0: 700 - 600, then 0; 9 99: -350
	mustTemp(t, opening, closing, old, now, 10+60+100+120-350, 100-50+100)
	mustTemp(t, closing, opening, old, now, -10-60-100-120+350, 9+120+114+100-329)
	mustTemp(t, opening[1:2], closing[2:3], rates(100000, 5), rates(200000, 400000), 100+120, -50)
	mustTemp(t, closing[2:3], opening[1:2], rates(100000, 5), rates(200000, 400000), -100-120, 120)
	mustTemp(t, opening[:1], closing[:1], rates(5, 100000), rates(200000, 400000), 20-400, 300)
	mustTemp(t, closing[:1], opening[:1], rates(5, 100000), rates(200000, 400000), -20+400, 20)
}

// TestTempEach is of P17.1, Temp: a bucket of each Class and Year, in its place among others.
func TestTempEach(t *testing.T) {
	fixed := []api.Bucket{b(3, 50, 100), b(5, 50, 1000), b(7, 50, 10000)}
	for class := 1; class <= api.MaxClass; class++ {
		for year := range last + 1 {
			place := 0
			for _, x := range fixed {
				if x.Class < class || x.Class == class && x.Year < year {
					place++
				}
			}
			if place < len(fixed) && fixed[place].Class == class && fixed[place].Year == year {
				continue
			}
			old := slices.Insert(rates(100000, 200000, 300000), place, 5)
			now := slices.Insert(rates(200000, 300000, 400000), place, 500000)
			mustTemp(t, fixed, append(slices.Clone(fixed[:place]), append([]api.Bucket{b(class, year, 6)}, fixed[place:]...)...), old, now, 3, 1110)
		}
	}
}

// TestTempRounded is of P17.1, Temp: each share is rounded for itself, halves away from 0, not the differences, nor the sums.
func TestTempRounded(t *testing.T) {
	mustTemp(t, list(1), list(1), rates(499999), rates(500000), 0, 1)
	mustTemp(t, list(-1), list(-1), rates(499999), rates(500000), 0, -1)
	mustTemp(t, list(1), list(1), rates(0), rates(499999), 0, 0)
	mustTemp(t, list(10), list(10), rates(40000), rates(60000), 0, 1)     // by 0.2 alone
	mustTemp(t, list(10), list(10), rates(60000), rates(140000), 0, 0)    // by 0.8
	mustTemp(t, list(10), list(11), rates(140000), rates(140000), 1, 0)   // by 0.14
	mustTemp(t, list(10), list(13), rates(150000), rates(150000), 0, 0)   // from 1.5 to 1.95
	mustTemp(t, list(10), list(-10), rates(150000), rates(150000), -4, 0) // from 1.5 to -1.5
	mustTemp(t, list(2, 2, 2), list(2, 2, 2), rates(200000, 200000, 200000), rates(250000, 250000, 250000), 0, 3)
	mustTemp(t, list(1, 1, 1), nil, rates(0, 0, 0), rates(500000, 500000, 499999), -2, 2)
	mustTemp(t, nil, list(1, -3), rates(0, 0), rates(500000, 500000), -1, 0)
	for _, x := range []struct{ n, r, want int }{
		{499999, 1, 0}, {500000, 1, 1}, {1499999, 1, 1}, {1500000, 1, 2},
		{most, 1, 100000}, {most - 1, 1, 100000}, {most, whole - 1, most - 100000}, {most - 1, whole, most - 1}, {most, whole, most},
	} {
		for _, side := range []int{1, -1} {
			n, want := side*x.n, side*x.want
			mustTemp(t, list(n), list(n), rates(0), rates(x.r), 0, want)
			mustTemp(t, list(n), list(n), rates(x.r), rates(0), 0, -want)
			mustTemp(t, list(n), nil, rates(x.r), rates(x.r), -want, 0)
			mustTemp(t, nil, list(n), rates(0), rates(x.r), want, 0)
			mustTemp(t, list(n), list(-n), rates(0), rates(x.r/2), -2*share(n, x.r/2), share(n, x.r/2))
		}
	}
}

// TestTempOver is of P17.1, Temp: Moved and Rates are Money, each for itself, or there is no Change.
func TestTempOver(t *testing.T) {
	for _, side := range []int{1, -1} {
		m, one := side*most, side
		mustTemp(t, list(m), list(m), rates(0), rates(whole), 0, m)
		mustTemp(t, list(m), list(m), rates(whole), rates(0), 0, -m)
		mustTemp(t, list(m-one, one), list(m-one, one), rates(0, 0), rates(whole, whole), 0, m)
		checkError(t, list(m, one), list(m, one), rates(0, 0), rates(whole, whole), api.ErrOver)
		checkError(t, list(m, one), list(m, one), rates(whole, whole), rates(0, 0), api.ErrOver)
		checkError(t, list(one, m), list(one, m), rates(0, 0), rates(whole, whole), api.ErrOver)
		mustTemp(t, list(m, one), list(m, one), rates(0, 0), rates(whole, 499999), 0, m)
		checkError(t, list(m, one), list(m, one), rates(0, 0), rates(whole, 500000), api.ErrOver)
		mustTemp(t, nil, list(m), rates(0), rates(whole), m, 0)
		mustTemp(t, list(m), nil, rates(whole), rates(whole), -m, 0)
		checkError(t, nil, list(m, one), rates(0, 0), rates(whole, whole), api.ErrOver)
		checkError(t, list(m, one), nil, rates(whole, whole), rates(whole, whole), api.ErrOver)
		checkError(t, list(-m), list(m), rates(whole), rates(whole), api.ErrOver) // Moved alone
		checkError(t, list(-m), list(one), rates(whole), rates(whole), api.ErrOver)
		mustTemp(t, list(one-m), list(one), rates(whole), rates(whole), m, 0)
		mustTemp(t, list(-m), list(m), rates(500000), rates(500000), m, 0)
		mustTemp(t, list(-m), list(m), rates(0), rates(500000), m, -m/2)
		mustTemp(t, list(m), nil, rates(0), rates(whole), -m, m) // both at their bounds
		mustTemp(t, list(-m, m), list(m), rates(0, whole), rates(500000, 500000), m/2, -m)
	}
}

// TestTempOverAlone is of P17.1, Temp: what is too much in Moved is not made up for by Rates, nor the other way round.
func TestTempOverAlone(t *testing.T) {
	for _, side := range []int{1, -1} {
		m := side * most
		checkError(t, list(m, m), nil, rates(0, 0), rates(whole, whole), api.ErrOver)
		checkError(t, list(-m), list(m), rates(0), rates(whole), api.ErrOver)
		checkError(t, list(m, m), list(0, m), rates(0, 0), rates(whole, whole), api.ErrOver) // Rates alone: Moved is m
		checkError(t, list(m), list(-m), rates(whole), rates(whole), api.ErrOver)
		checkError(t, list(m), list(-m), rates(0), rates(whole), api.ErrOver)
	}
}

// TestTempOnTheWay is of P17.1, Temp, and R6: what sums and differences come up on the way does not matter.
func TestTempOnTheWay(t *testing.T) {
	for _, side := range []int{1, -1} {
		m := side * most
		mustTemp(t, list(m, m, -m), list(m, m, -m), rates(0, 0, 0), rates(whole, whole, whole), 0, m)
		mustTemp(t, list(m, m), list(m, m), rates(whole, whole), rates(whole, whole), 0, 0)
		mustTemp(t, list(-m, m), list(m, -m), rates(whole, whole), rates(whole, whole), 0, 0)
		mustTemp(t, list(-m, -m, m, m), list(m, m, -m, -m), rates(0, whole, 0, whole), rates(whole, whole, whole, whole), 0, 0)
		mustTemp(t, list(m, m, 0, 0, 0), list(0, 0, m, m, m), rates(0, whole, whole, whole, whole), rates(whole, whole, whole, whole, whole), m, m)
		mustTemp(t, list(m, m, m, m), list(m, m, m, m), rates(0, whole, 0, whole), rates(whole, 0, whole, 0), 0, 0)
	}
	var opening, closing []int
	var old, now []int
	for i := range api.MaxBuckets {
		opening = append(opening, most*(1-i%2*2))
		closing = append(closing, -opening[i])
		old, now = append(old, whole), append(now, whole)
	}
	mustTemp(t, list(opening...), list(closing...), old, now, 0, 0)
}

// TestTempMany is of P17.1, Temp, and R1: rows of any number, whose sums are far beyond Money on the way.
func TestTempMany(t *testing.T) {
	const half = 50000
	l := make([]int, 2*half+1)
	old, now := make([]int, len(l)), make([]int, len(l))
	for i := range l {
		l[i], now[i] = most, whole
	}
	checkError(t, list(l...), list(l...), old, now, api.ErrOver)
	checkError(t, nil, list(l...), old, now, api.ErrOver)
	for i := range half {
		l[i] = -most
	}
	mustTemp(t, list(l...), list(l...), old, now, 0, most)
	mustTemp(t, nil, list(l...), old, now, most, 0)
	mustTemp(t, list(l...), nil, old, now, -most, most)
	now[2*half] = whole + 1
	checkError(t, list(l...), nil, old, now, api.ErrArg)
}

// TestTempNumbers is of P17.1, Temp: there is an old and a new rate for each row of both lists, not for each bucket of one.
func TestTempNumbers(t *testing.T) {
	some := rates(1, 2, 3, 4, 5, 6)
	for _, x := range []struct {
		opening, closing []api.Bucket
		rows             int
	}{
		{nil, nil, 0}, {list(1), nil, 1}, {nil, list(1), 1}, {list(1), list(2), 1}, {list(0), list(0), 1}, {list(1, 2, 3), list(1), 3}, {list(1), list(1, 2, 3), 3},
		{list(1, 2, 3, 4)[1:], list(1, 2, 3), 4}, {[]api.Bucket{b(1, 5, 1)}, []api.Bucket{b(2, 5, 1)}, 2}, {[]api.Bucket{b(1, 6, 1)}, []api.Bucket{b(1, 5, 1)}, 2},
		{list(1, 2), []api.Bucket{b(2, 0, 1), b(2, 1, 1), b(2, 2, 1)}, 5},
	} {
		for i := range len(some) + 1 {
			for j := range len(some) + 1 {
				if i == x.rows && j == x.rows {
					mustTemp(t, x.opening, x.closing, some[:i], some[:j], 0, 0)
				} else {
					checkError(t, x.opening, x.closing, some[:i], some[:j], api.ErrArg)
				}
			}
		}
	}
}

// TestTempRates is of P17.1, Temp: each wrong rate, old or new, wherever it stands, also of a row for which it comes to nothing.
func TestTempRates(t *testing.T) {
	for _, x := range [][2][]api.Bucket{{list(1, 2, 3), list(1, 2, 3)}, {list(1, 2, 3), nil}, {nil, list(1, 2, 3)}, {list(0, 0, 0), list(0, 0, 0)}} {
		for i := range 3 {
			for _, n := range wrongRates {
				wrong := rates(0, 1, whole)
				wrong[i] = n
				checkError(t, x[0], x[1], wrong, rates(1, whole, 0), api.ErrArg)
				checkError(t, x[0], x[1], rates(whole, 0, 1), wrong, api.ErrArg)
				checkError(t, x[0], x[1], wrong, wrong, api.ErrArg)
			}
		}
	}
}

// TestTempAmounts is of P17.1, Temp: each wrong Opening or Closing, wherever it stands, also at rates at which it comes to nothing.
func TestTempAmounts(t *testing.T) {
	for i := range 3 {
		for _, n := range wrongMoney {
			wrong := list(1, 2, 3)
			wrong[i].Amount = n
			for _, r := range []int{0, 1, 500000, whole} {
				same := rates(r, r, r)
				checkError(t, wrong, list(1, 2, 3), same, same, api.ErrArg)
				checkError(t, list(1, 2, 3), wrong, same, same, api.ErrArg)
				checkError(t, wrong, wrong, same, same, api.ErrArg)
				checkError(t, wrong, nil, same, same, api.ErrArg)
				checkError(t, nil, wrong, same, same, api.ErrArg)
			}
		}
	}
	// A movement is no amount of the list: it may be beyond Money.
	mustTemp(t, list(-most), list(most), rates(0), rates(0), 0, 0)
	mustTemp(t, list(most), list(-most), rates(1), rates(1), -200000, 0)
}

// TestTempOrder is of P17.1, Temp, and R2: ErrArg ahead of ErrOver, also where what is wrong comes last.
func TestTempOrder(t *testing.T) {
	over, all := list(most, most, 1), rates(whole, whole, whole)
	checkError(t, nil, over, all, all, api.ErrOver)
	checkError(t, over, over, rates(0, 0, 0), all, api.ErrOver)
	for _, wrong := range [][]int{all[:2], append(slices.Clone(all), 0), rates(whole, whole, -1), rates(whole, whole, whole+1)} {
		checkError(t, nil, over, all, wrong, api.ErrArg)
		checkError(t, nil, over, wrong, all, api.ErrArg)
		checkError(t, over, over, wrong, rates(0, 0, 0), api.ErrArg)
		checkError(t, over, over, rates(0, 0, 0), wrong, api.ErrArg)
	}
	for _, n := range []int{most + 1, -most - 1} {
		checkError(t, nil, list(most, most, n), all, all, api.ErrArg)
		checkError(t, list(most, most, n), nil, all, all, api.ErrArg)
		checkError(t, list(most, most, n), over, all, all, api.ErrArg)
		checkError(t, over, list(most, most, n), rates(0, 0, 0), all, api.ErrArg)
	}
}

// TestTempMemory is of R4 and R5: what lies behind the lists isn't read or written, and nothing is kept.
func TestTempMemory(t *testing.T) {
	opening, closing := list(100, 200, most+1, 5), list(140, 100, -most-1, 5)
	old, now := rates(250000, 500000, -1, whole), rates(300000, 400000, whole+1, whole)
	o, c, was, is := slices.Clone(opening), slices.Clone(closing), slices.Clone(old), slices.Clone(now)
	for range 2 {
		mustTemp(t, opening[:2], closing[:2], old[:2], now[:2], 12-40, 5-20)
		mustTemp(t, opening[:2], closing[:1], old[:2], now[:2], 12-80, 5-20)
		mustTemp(t, opening[:1], closing[:2], old[:2], now[:2], 12+40, 5)
		mustTemp(t, opening[3:], closing[3:], old[3:], now[3:], 0, 0)
		mustTemp(t, opening[:0], closing[:0], old[:0], now[:0], 0, 0)
		checkError(t, opening[:3], closing[:2], old[:2], now[:2], api.ErrArg)
		checkError(t, opening[:2], closing[:2], old[:1], now[:2], api.ErrArg)
		checkError(t, opening[:2], closing[:2], old[:2], now[:1], api.ErrArg)
	}
	if !slices.Equal(opening, o) || !slices.Equal(closing, c) || !slices.Equal(old, was) || !slices.Equal(now, is) {
		t.Errorf("Temp wrote %v, %v, %v, %v", opening, closing, old, now)
	}
	mustTemp(t, opening[:2], opening[:2], old[:2], old[:2], 0, 0) // one list twice
}

// TestTotal is of P17.1, Total: the sum of both, beyond Money, too (R6).
func TestTotal(t *testing.T) {
	l := []int{0, 1, -1, 5, -12, 100, most - 1, most, -most, most + 1, -most - 1, 2 * most, 1 << 40, -1 << 40, 1 << 61, -1 << 61}
	for _, moved := range l {
		for _, byRates := range l {
			if got := remeasure.Total(remeasure.Change{Moved: moved, Rates: byRates}); got != moved+byRates {
				t.Errorf("Total({%d %d}) = %d", moved, byRates, got)
			}
		}
	}
	if got := remeasure.Total(remeasure.Change{}); got != 0 {
		t.Errorf("Total of nothing is %d", got)
	}
}

// TestTotalMeasured is of P17.2: the Total is what the opening was measured at, less what the closing is, whatever is rounded.
func TestTotalMeasured(t *testing.T) {
	opening, closing := []api.Bucket{b(1, 1, 33), b(1, 2, -17), b(4, 0, 7)}, []api.Bucket{b(1, 2, 41), b(2, 1, -5), b(4, 0, 7)}
	// The rows are 1 1, 1 2, 2 1, 4 0.
	old, now := rates(123456, 654321, 5, 500000), rates(333333, 222222, 777777, 499999)
	c, e := remeasure.Temp(opening, closing, old, now)
	was, _ := measure.Temp(opening, rates(old[0], old[1], old[3]))
	is, _ := measure.Temp(closing, rates(now[1], now[2], now[3]))
	if e != api.OK || was != 3 || is != -8 || remeasure.Total(c) != was-is { // 4-11+4 and 9-4+3, as liabilities
		t.Errorf("Temp = %v, error %d; measured %d and %d", c, e, was, is)
	}
	// What is too much to be measured may change by little.
	mustTemp(t, list(most, most), list(most, most-1), rates(whole, whole), rates(whole, whole-1), -1, -100000)
}

// sides returns the openings and closings of both lists' buckets, in the order of their rows.
func sides(opening, closing []api.Bucket) (was, is []int) {
	for class := 1; class <= api.MaxClass; class++ {
		for year := range last + 1 {
			x, inX := amount(opening, class, year)
			y, inY := amount(closing, class, year)
			if inX || inY {
				was, is = append(was, x), append(is, y)
			}
		}
	}
	return was, is
}

func amount(rows []api.Bucket, class, year int) (int, bool) {
	for _, row := range rows {
		if row.Class == class && row.Year == year {
			return row.Amount, true
		}
	}
	return 0, false
}

// words is the document's words for Temp, on numbers without bounds.
func words(opening, closing []api.Bucket, old, now []int) (remeasure.Change, api.Errno) {
	was, is := sides(opening, closing)
	if len(old) != len(was) || len(now) != len(was) {
		return remeasure.Change{}, api.ErrArg
	}
	moved, byRates := new(big.Int), new(big.Int)
	for i := range was {
		for _, r := range []int{old[i], now[i]} {
			if r < 0 || r > 1000000 {
				return remeasure.Change{}, api.ErrArg
			}
		}
		for _, n := range []int{was[i], is[i]} {
			if n < -most || n > most {
				return remeasure.Change{}, api.ErrArg
			}
		}
		moved.Add(moved, big.NewInt(int64(share(is[i], now[i])-share(was[i], now[i]))))
		byRates.Add(byRates, big.NewInt(int64(share(was[i], now[i])-share(was[i], old[i]))))
	}
	if moved.CmpAbs(big.NewInt(most)) > 0 || byRates.CmpAbs(big.NewInt(most)) > 0 {
		return remeasure.Change{}, api.ErrOver
	}
	return remeasure.Change{Moved: int(moved.Int64()), Rates: int(byRates.Int64())}, api.OK
}

// someMoves moves up to twelve buckets of a few classes and years, so that many are moved again.
func someMoves(r *rand.Rand, x *bucket.Register, great bool) {
	for range r.Intn(13) {
		class, year := 1+r.Intn(3), r.Intn(4)
		n := r.Intn(60) - 30
		if great {
			n = r.Intn(2*most+1) - most
		}
		if r.Intn(4) == 0 {
			n = -x.Get(class, year)
		}
		x.Move(class, year, n) // one that has no room is refused, which does no harm
	}
}

// someRates returns n rates, of which many are at a bound or a half.
func someRates(r *rand.Rand, n int) []int {
	var l []int
	for range n {
		l = append(l, []int{0, whole, 500000, r.Intn(whole + 1), r.Intn(whole + 1)}[r.Intn(5)])
	}
	return l
}

// TestModel is of P17.1, P17.2 and R5: random Registers before and after, now and then with a fault, against the document's words and against measure.
func TestModel(t *testing.T) {
	r := rand.New(rand.NewSource(17))
	seen, measured := map[api.Errno]int{}, 0
	for run := range 30000 {
		x := bucket.New()
		someMoves(r, x, run%2 == 0)
		opening := x.Rows()
		someMoves(r, x, run%2 == 0)
		closing := x.Rows()
		was, _ := sides(opening, closing)
		old, now := someRates(r, len(was)), someRates(r, len(was))
		if run%5 == 0 {
			now = slices.Clone(old)
		}
		fault(r, run, &opening, &closing, &old, &now)
		want, e := words(opening, closing, old, now)
		checkTemp(t, opening, closing, old, now, want, e)
		seen[e]++
		if e == api.OK && holdsMeasured(t, opening, closing, old, now, want) {
			measured++
		}
		if t.Failed() {
			t.FailNow()
		}
	}
	for _, e := range []api.Errno{api.OK, api.ErrArg, api.ErrOver} {
		if seen[e] < 1000 {
			t.Errorf("error %d came up %d times", e, seen[e])
		}
	}
	if measured < 10000 {
		t.Errorf("measured %d times", measured)
	}
}

// fault puts something wrong into one of the lists, in one run of ten.
func fault(r *rand.Rand, run int, opening, closing *[]api.Bucket, old, now *[]int) {
	rows := *[]*[]api.Bucket{opening, closing}[r.Intn(2)]
	l := []*[]int{old, now}[r.Intn(2)]
	switch run % 30 {
	case 3:
		if len(rows) > 0 {
			rows[r.Intn(len(rows))].Amount = wrongMoney[r.Intn(len(wrongMoney))]
		}
	case 13:
		if len(*l) > 0 {
			(*l)[r.Intn(len(*l))] = wrongRates[r.Intn(len(wrongRates))]
		}
	case 23:
		*l = append(*l, 5)
	}
}

// holdsMeasured holds P17.2 where both lists can be measured, and reports whether they can.
func holdsMeasured(t *testing.T, opening, closing []api.Bucket, old, now []int, c remeasure.Change) bool {
	t.Helper()
	var before, after []api.Bucket
	for _, row := range roll.Forward(opening, closing) {
		before = append(before, b(row.Class, row.Year, row.Opening))
		after = append(after, b(row.Class, row.Year, row.Closing))
	}
	was, e := measure.Temp(before, old)
	is, f := measure.Temp(after, now)
	if e != api.OK || f != api.OK {
		return false
	}
	if got := remeasure.Total(c); got != was-is {
		t.Errorf("%v, %v at %v, %v: Total(%v) = %d; measured %d and %d", opening, closing, old, now, c, got, was, is)
	}
	return true
}

// TestTogether is of P17.1 and P17.2: a Register from close to close while rates are enacted: the Totals sum to the balance.
func TestTogether(t *testing.T) {
	x, r := enact.New(), bucket.New()
	x.Add("uk", 0, 300000, 0)
	x.Add("uk", 1, 200000, 2)
	x.Add("uk", 2, 250000, 6)
	balance, opening := 0, r.Rows()
	steps := [][]api.Bucket{{b(1, 0, 100), b(2, 1, -60)}, {b(1, 0, -100), b(1, 1, 50)}, {}, {b(2, 1, 60), b(3, 2, 40)}, {}, {b(3, 2, -40)}, {b(3, 3, 80)}, {}}
	for at, want := range []remeasure.Change{{Moved: 12}, {Moved: -15}, {Rates: 1}, {Moved: 12 + 8}, {}, {Moved: -8}, {Moved: 20}, {}} {
		for _, m := range steps[at] {
			if e := r.Move(m.Class, m.Year, m.Amount); e != api.OK {
				t.Fatal(at, m, e)
			}
		}
		closing := r.Rows()
		var years []api.Bucket
		for _, row := range roll.Forward(opening, closing) {
			years = append(years, b(row.Class, row.Year, 0))
		}
		old, e := measure.Rates(x, "uk", years, max(at-1, 0))
		now, f := measure.Rates(x, "uk", years, at)
		if e != api.OK || f != api.OK {
			t.Fatal(at, e, f)
		}
		checkTemp(t, opening, closing, old, now, want, api.OK)
		balance -= remeasure.Total(want)
		own, _ := measure.Rates(x, "uk", closing, at)
		if got, _ := measure.Temp(closing, own); got != balance {
			t.Errorf("at %d the balance is %d, and the Totals sum to %d", at, got, balance)
		}
		opening = closing
	}
}
