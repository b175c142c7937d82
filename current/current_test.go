package current_test

import (
	"cmp"
	"math"
	"math/big"
	"math/rand"
	"slices"
	"testing"

	"scutage/api"
	"scutage/current"
	"scutage/rate"
	"scutage/use"
	"scutage/vintage"
)

const (
	most  = api.MaxMoney
	whole = api.MaxRate
	last  = api.MaxYear
)

// wrong numbers of each kind: one past each bound, far past it, and what goes round when it is negated, summed or cut short.
var (
	common     = []int{-1, -2, math.MinInt, math.MinInt + 1, math.MinInt + 5, 1 << 32, 1<<32 + 5, 1 << 62, math.MaxInt - 1, math.MaxInt}
	wrongRates = append([]int{whole + 1, whole + 2, 2 * whole, api.MaxFx, -whole, most}, common...)
	wrongYears = append([]int{last + 1, last + 2, 2 * last, 2*last + 1, 399, -last}, common...)
	wrongMoney = []int{most + 1, -most - 1, 2 * most, -2 * most, 1 << 40, -(1 << 40), 1 << 62, -(1 << 62), math.MaxInt, math.MaxInt - 1, math.MinInt, math.MinInt + 1}
)

func v(origin, expiry, left int) api.Vintage {
	return api.Vintage{Origin: origin, Expiry: expiry, Left: left}
}

// in is what Tax is given beside the losses.
type in struct{ book, perm, moved, cap, life, year, r int }

func (x in) tax(l *vintage.Losses) (current.Result, *vintage.Losses, api.Errno) {
	return current.Tax(l, x.book, x.perm, x.moved, x.cap, x.life, x.year, x.r)
}

// losses returns Losses to which the vintages were added; each must be taken.
func losses(t *testing.T, vintages ...api.Vintage) *vintage.Losses {
	t.Helper()
	l := vintage.New()
	for _, x := range vintages {
		if e := l.Add(x.Origin, x.Expiry, x.Left); e != api.OK {
			t.Fatalf("%v: Add(%v) = %d", l.Rows(), x, e)
		}
	}
	return l
}

func same(a, b current.Result) bool {
	vector := slices.Equal(a.Vector, b.Vector)
	a.Vector, b.Vector = nil, nil
	return vector && a.Income == b.Income && a.Expired == b.Expired && a.Used == b.Used && a.New == b.New && a.Taxable == b.Taxable && a.Tax == b.Tax
}

// mustTax holds the computation, and the losses after it, which it returns; those before it must stay as they are.
func mustTax(t *testing.T, l *vintage.Losses, x in, want current.Result, rows ...api.Vintage) *vintage.Losses {
	t.Helper()
	before := l.Rows()
	got, after, e := x.tax(l)
	if e != api.OK || !same(got, want) {
		t.Errorf("%v: Tax(%+v) = %+v, error %d; want %+v", before, x, got, e, want)
	}
	if after == nil || after == l {
		t.Fatalf("%v: Tax(%+v) has no other losses after it", before, x)
	}
	mustHave(t, after, rows...)
	mustHave(t, l, before...)
	return after
}

// mustRefuse holds an error, that nothing comes with it (R3), and that it changed nothing (R2).
func mustRefuse(t *testing.T, l *vintage.Losses, x in, want api.Errno) {
	t.Helper()
	before := l.Rows()
	got, after, e := x.tax(l)
	if e != want || !same(got, current.Result{}) || after != nil {
		t.Errorf("%v: Tax(%+v) = %+v, losses %t, error %d; want error %d alone", before, x, got, after != nil, e, want)
	}
	mustHave(t, l, before...)
}

func mustHave(t *testing.T, l *vintage.Losses, rows ...api.Vintage) {
	t.Helper()
	if got := l.Rows(); !slices.Equal(got, rows) {
		t.Errorf("losses %v; want %v", got, rows)
	}
}

// full returns MaxVintages vintages, in order, two of each expiry, which go from 40 to 90.
func full() []api.Vintage {
	var rows []api.Vintage
	for i := range api.MaxVintages {
		rows = append(rows, v(5+i, 40+i/2*10, i+1))
	}
	return rows
}

// TestTax is of P15.1: incomes without losses, with some that expired, and with more than the cap leaves room for.
func TestTax(t *testing.T) {
	mustTax(t, losses(t), in{book: 100, r: 250000}, current.Result{Income: 100, Taxable: 100, Tax: 25}) // the document's
	mustTax(t, losses(t), in{100, 20, 50, 500000, 5, 9, 300000}, current.Result{Income: 70, Taxable: 70, Tax: 21})

	rows := []api.Vintage{v(4, 7, 5), v(3, 9, 19), v(5, 9, 11), v(6, 12, 8)}
	l := losses(t, rows...)
	mustTax(t, l, in{45, 6, 10, 600000, 5, 9, 300000}, current.Result{Income: 41, Expired: 5, Used: 24, Taxable: 17, Tax: 5, Vector: []int{19, 5, 0}}, v(5, 9, 6), v(6, 12, 8))
	mustTax(t, l, in{45, 6, 10, 600000, 5, 7, 300000}, current.Result{Income: 41, Used: 24, Taxable: 17, Tax: 5, Vector: []int{5, 19, 0, 0}}, v(5, 9, 11), v(6, 12, 8))
	mustTax(t, l, in{45, 6, 10, 600000, 5, 10, 300000}, current.Result{Income: 41, Expired: 35, Used: 8, Taxable: 33, Tax: 10, Vector: []int{8}})
	mustTax(t, l, in{45, 6, 10, 600000, 5, 13, 300000}, current.Result{Income: 41, Expired: 43, Taxable: 41, Tax: 12})
	mustTax(t, l, in{-45, 6, 10, 600000, 5, 9, 300000}, current.Result{Income: -49, Expired: 5, New: 49}, v(3, 9, 19), v(5, 9, 11), v(6, 12, 8), v(9, 14, 49))
}

// TestIncome is of P15.1: Income is that of bridge: each argument alone on both sides of 0, and sums that are beyond Money on the way.
func TestIncome(t *testing.T) {
	l := losses(t)
	for _, n := range []int{1, 2, 7, most - 1, most} {
		above, below := current.Result{Income: n, Taxable: n, Tax: n}, current.Result{Income: -n, New: n}
		for _, x := range []in{{book: n, r: whole}, {perm: n, r: whole}, {moved: -n, r: whole}, {book: n, perm: most, moved: most, r: whole}, {book: -most, perm: n, moved: -most, r: whole}} {
			mustTax(t, l, x, above)
		}
		for _, x := range []in{{book: -n, r: whole}, {perm: -n, r: whole}, {moved: n, r: whole}, {book: -n, perm: most, moved: most, r: whole}, {book: -most, perm: -n, moved: -most, r: whole}} {
			mustTax(t, l, x, below, v(0, 0, n))
		}
	}
}

// TestNoIncome is of P15.1: an income of 0 uses nothing and loses nothing, but what is expired goes.
func TestNoIncome(t *testing.T) {
	rows := []api.Vintage{v(1, 4, 5), v(2, 9, 30)}
	l := losses(t, rows...)
	for _, x := range []in{{}, {book: 7, moved: 7}, {book: 7, perm: -7}, {perm: -most, moved: -most}} {
		x.cap, x.life, x.r = whole, 5, whole
		x.year = 4
		mustTax(t, l, x, current.Result{}, rows...)
		x.year = 5
		mustTax(t, l, x, current.Result{Expired: 5}, rows[1:]...)
		x.year = 10
		mustTax(t, l, x, current.Result{Expired: 35})
		mustTax(t, losses(t), x, current.Result{})
	}
}

// TestExpired is of P15.1, step 1: in each year there is, whatever the income is, what expired in an earlier one is gone, and is not used.
func TestExpired(t *testing.T) {
	rows := []api.Vintage{v(0, 0, 1), v(0, 1, 2), v(1, 49, 4), v(50, 50, 8), v(7, 98, 16), v(0, last, 32), v(99, 100, 64), v(99, 2*last, 128)}
	l := losses(t, rows...)
	for year := range last + 1 {
		expired, first := 0, 0
		for first < len(rows) && rows[first].Expiry < year {
			expired += rows[first].Left
			first++
		}
		var vector []int
		for _, x := range rows[first:] {
			vector = append(vector, x.Left)
		}
		used := 255 - expired
		mustTax(t, l, in{cap: whole, life: 5, year: year, r: whole}, current.Result{Expired: expired}, rows[first:]...)
		mustTax(t, l, in{book: 1000, cap: whole, life: 5, year: year, r: whole}, current.Result{Income: 1000, Expired: expired, Used: used, Taxable: 1000 - used, Tax: 1000 - used, Vector: vector})
		after := losses(t, append(slices.Clone(rows[first:]), v(year, year+5, 3))...)
		mustTax(t, l, in{book: -3, cap: whole, life: 5, year: year, r: whole}, current.Result{Income: -3, Expired: expired, New: 3}, after.Rows()...)
	}
}

// TestUsed is of P15.1, step 2: each room there is, up to more than all that is left; what is used up is gone.
func TestUsed(t *testing.T) {
	rows := []api.Vintage{v(1, 4, 2), v(0, 6, 3), v(2, 6, 1), v(3, 9, 2)}
	l := losses(t, rows...)
	for income := 1; income < 20; income++ {
		left, room := l.Clone(), income
		var vector []int
		for _, x := range rows {
			vector = append(vector, min(x.Left, room))
			room -= min(x.Left, room)
		}
		if e := left.Take(vector); e != api.OK {
			t.Fatal(e)
		}
		used := min(income, 8)
		want := current.Result{Income: income, Used: used, Taxable: income - used, Tax: income - used, Vector: vector}
		mustTax(t, l, in{book: income, cap: whole, year: 4, r: whole}, want, left.Rows()...)
		// the room is the same where the income is twice as much, and half of it counts; a unit more is rounded down
		want.Income, want.Taxable, want.Tax = 2*income, 2*income-used, 2*income-used
		mustTax(t, l, in{book: 2 * income, cap: whole / 2, year: 4, r: whole}, want, left.Rows()...)
		want.Income, want.Taxable, want.Tax = 2*income+1, 2*income+1-used, 2*income+1-used
		mustTax(t, l, in{book: 2*income + 1, cap: whole / 2, year: 4, r: whole}, want, left.Rows()...)
	}
}

// TestCap is of P15.1, step 2: from no share of the income to the whole, rounded down; the tax rate has no part in it.
func TestCap(t *testing.T) {
	l := losses(t, v(1, 9, most))
	for _, x := range []struct{ income, cap, used int }{
		{1000, 0, 0}, {1000, 1, 0}, {1000, 999, 0}, {1000, 1000, 1}, {1000, 1999, 1}, {1000, 2000, 2}, {1000, 800000, 800}, {999, 800000, 799}, {1000, whole - 1, 999}, {1000, whole, 1000},
		{1, whole - 1, 0}, {1, whole, 1}, {most - 1, whole, most - 1}, {most, whole, most}, {most, whole - 1, most - 100000}, {most, 1, 100000}, {most - 1, 1, 99999}, {most, 0, 0},
	} {
		var left []api.Vintage
		if x.used < most {
			left = append(left, v(1, 9, most-x.used))
		}
		for _, r := range []int{0, whole} {
			taxable := x.income - x.used
			mustTax(t, l, in{book: x.income, cap: x.cap, year: 9, r: r}, current.Result{Income: x.income, Used: x.used, Taxable: taxable, Tax: taxable * r / whole, Vector: []int{x.used}}, left...)
		}
	}
}

// TestVector is of P15.1, step 2: it has a number for each row that is not expired, and for no other, also where nothing is used.
func TestVector(t *testing.T) {
	rows := full()
	l := losses(t, rows...)
	for gone := range 6 {
		year := 40 + gone*10
		expired := 0
		for _, x := range rows[:2*gone] {
			expired += x.Left
		}
		vector := make([]int, len(rows)-2*gone)
		mustTax(t, l, in{book: 5, year: year}, current.Result{Income: 5, Expired: expired, Taxable: 5, Vector: vector}, rows[2*gone:]...)
		vector[0] = 1
		after := slices.Clone(rows[2*gone:])
		after[0].Left--
		if after[0].Left == 0 {
			after = after[1:]
		}
		mustTax(t, l, in{book: 1, cap: whole, year: year}, current.Result{Income: 1, Expired: expired, Used: 1, Vector: vector}, after...)
	}
}

// TestNew is of P15.1, step 3: the loss is of the year, and may be used for as many years more as its life has: each year and each life there is.
func TestNew(t *testing.T) {
	l := losses(t)
	for year := range last + 1 {
		for life := range last + 1 {
			after := mustTax(t, l, in{book: -5, cap: whole, life: life, year: year, r: whole}, current.Result{Income: -5, New: 5}, v(year, year+life, 5))
			if n := after.Expire(year + life); n != 0 {
				t.Errorf("of the loss of %d, %d expired ahead of %d", year, n, year+life)
			}
		}
	}
	for _, cap := range []int{0, 1, whole} {
		for _, r := range []int{0, 1, whole} {
			mustTax(t, l, in{book: -5, cap: cap, life: 3, year: 7, r: r}, current.Result{Income: -5, New: 5}, v(7, 10, 5))
			mustTax(t, l, in{book: -most, cap: cap, life: 3, year: 7, r: r}, current.Result{Income: -most, New: most}, v(7, 10, most))
		}
	}
}

// TestNewVintage is of P15.1, step 3: losses of one year and one life are one vintage; others are other ones, and none is used.
func TestNewVintage(t *testing.T) {
	l := losses(t, v(7, 10, 5), v(5, 12, 3))
	mustTax(t, l, in{book: -4, cap: whole, life: 3, year: 7, r: whole}, current.Result{Income: -4, New: 4}, v(7, 10, 9), v(5, 12, 3))
	mustTax(t, l, in{book: -4, cap: whole, life: 5, year: 7, r: whole}, current.Result{Income: -4, New: 4}, v(7, 10, 5), v(5, 12, 3), v(7, 12, 4))
	mustTax(t, l, in{book: -4, cap: whole, life: 2, year: 8, r: whole}, current.Result{Income: -4, New: 4}, v(7, 10, 5), v(8, 10, 4), v(5, 12, 3))
	mustTax(t, l, in{book: -4, cap: whole, life: 0, year: 7, r: whole}, current.Result{Income: -4, New: 4}, v(7, 7, 4), v(7, 10, 5), v(5, 12, 3))
	mustTax(t, l, in{book: -4, cap: whole, life: 3, year: 11, r: whole}, current.Result{Income: -4, Expired: 5, New: 4}, v(5, 12, 3), v(11, 14, 4))
}

// TestShare is of P15.1, step 4: the tax is rounded to the nearest, halves up, and is of what is left of the income, not of all of it.
func TestShare(t *testing.T) {
	for _, x := range []struct{ taxable, r, tax int }{
		{0, whole, 0}, {1, 499999, 0}, {1, 500000, 1}, {3, 500000, 2}, {5, 300000, 2}, {4, 300000, 1}, {1, 0, 0}, {1, whole, 1}, {499999, 1, 0}, {500000, 1, 1}, {1499999, 1, 1}, {1500000, 1, 2},
		{most, 0, 0}, {most, 1, 100000}, {most - 1, 1, 100000}, {most, whole - 1, most - 100000}, {most - 1, whole, most - 1}, {most, whole, most},
	} {
		want := current.Result{Income: x.taxable, Taxable: x.taxable, Tax: x.tax}
		mustTax(t, losses(t), in{book: x.taxable, cap: whole, r: x.r}, want)
		if x.taxable > 0 && x.taxable <= most-7 {
			want.Income, want.Used, want.Vector = x.taxable+7, 7, []int{7}
			mustTax(t, losses(t, v(0, 0, 7)), in{book: x.taxable + 7, cap: whole, r: x.r}, want)
		}
	}
}

// TestArg is of P15.1: each of cap, rate, life and year past its bounds, whatever the income is; and the bounds themselves.
func TestArg(t *testing.T) {
	l := losses(t, v(0, 9, 10), v(99, 2*last, 2))
	for _, book := range []int{5, 0, -5} {
		for _, n := range wrongRates {
			mustRefuse(t, l, in{book: book, cap: n, life: 1, year: 1, r: 1}, api.ErrArg)
			mustRefuse(t, l, in{book: book, cap: 1, life: 1, year: 1, r: n}, api.ErrArg)
		}
		for _, n := range wrongYears {
			mustRefuse(t, l, in{book: book, cap: 1, life: n, year: 1, r: 1}, api.ErrArg)
			mustRefuse(t, l, in{book: book, cap: 1, life: 1, year: n, r: 1}, api.ErrArg)
		}
		// wrong ones that come to a right one together
		mustRefuse(t, l, in{book: book, cap: 1, life: -1, year: 5, r: 1}, api.ErrArg)
		mustRefuse(t, l, in{book: book, cap: 1, life: 5, year: -1, r: 1}, api.ErrArg)
		mustRefuse(t, l, in{book: book, cap: 1, life: last + 1, year: 0, r: 1}, api.ErrArg)
		mustRefuse(t, l, in{book: book, cap: 1, life: 0, year: last + 1, r: 1}, api.ErrArg)
		for _, x := range []in{{cap: 0, r: whole}, {cap: whole, r: 0}, {life: last}, {year: last}, {life: last, year: last, cap: whole, r: whole}} {
			x.book = book
			if _, _, e := x.tax(l); e != api.OK {
				t.Errorf("Tax(%+v) = error %d", x, e)
			}
		}
	}
}

// TestOver is of P15.1: an income that is not Money, or is of what is not.
func TestOver(t *testing.T) {
	l := losses(t, v(0, 9, 10))
	right := in{cap: whole, life: 5, year: 10, r: whole}
	for _, x := range []in{{book: most, perm: 1}, {book: most, moved: -1}, {perm: most, moved: -1}, {book: -most, perm: -1}, {book: -most, moved: 1}, {perm: -most, moved: 1}, {book: most, perm: most, moved: -most}, {book: -most, perm: -most, moved: most}} {
		x.cap, x.life, x.year, x.r = right.cap, right.life, right.year, right.r
		mustRefuse(t, l, x, api.ErrOver)
	}
	for _, n := range wrongMoney {
		for _, other := range []int{0, 1, -1, most, -most, n, -n} {
			x := right
			x.book, x.perm = n, other
			mustRefuse(t, l, x, api.ErrOver)
			x.book, x.perm = other, n
			mustRefuse(t, l, x, api.ErrOver)
			x.perm, x.moved = other, n
			mustRefuse(t, l, x, api.ErrOver)
		}
	}
}

// TestAddOver is of P15.1: the error of Add where all losses would be more than Money; what is expired makes room, what is not does not.
func TestAddOver(t *testing.T) {
	l := losses(t, v(1, 4, 5), v(2, 9, most-7))
	mustTax(t, l, in{book: -2, life: 7, year: 2}, current.Result{Income: -2, New: 2}, v(1, 4, 5), v(2, 9, most-5))
	mustTax(t, l, in{book: -2, life: 5, year: 4}, current.Result{Income: -2, New: 2}, v(1, 4, 5), v(2, 9, most-7), v(4, 9, 2))
	for _, n := range []int{3, 4, 7, most - 1, most} {
		mustRefuse(t, l, in{book: -n, life: 5, year: 4}, api.ErrOver)
		mustRefuse(t, l, in{book: -n, life: 7, year: 2}, api.ErrOver)
		mustTax(t, l, in{book: -n, life: 5, year: 10}, current.Result{Income: -n, Expired: most - 2, New: n}, v(10, 15, n))
	}
	mustTax(t, l, in{book: -7, life: 5, year: 5}, current.Result{Income: -7, Expired: 5, New: 7}, v(2, 9, most-7), v(5, 10, 7))
	mustRefuse(t, l, in{book: -8, life: 5, year: 5}, api.ErrOver)
}

// TestAddLimit is of P15.1: the error of Add where there is no vintage any more; what is expired makes room, and what is there takes more.
func TestAddLimit(t *testing.T) {
	rows := full()
	l := losses(t, rows...)
	for _, year := range []int{0, 1, 39, 40} {
		mustRefuse(t, l, in{book: -1, life: 99, year: year}, api.ErrLimit)
	}
	mustTax(t, l, in{book: -1, life: 9, year: 41}, current.Result{Income: -1, Expired: 3, New: 1}, append(slices.Clone(rows[2:4]), append([]api.Vintage{v(41, 50, 1)}, rows[4:]...)...)...)
	more := slices.Clone(rows)
	more[1].Left += 8
	mustTax(t, l, in{book: -8, life: 34, year: 6}, current.Result{Income: -8, New: 8}, more...)
	mustRefuse(t, l, in{book: -8, life: 33, year: 6}, api.ErrLimit)
	// what has an income needs no vintage
	mustTax(t, l, in{year: 40}, current.Result{}, rows...)
	mustTax(t, l, in{book: 1, cap: whole, year: 40}, current.Result{Income: 1, Used: 1, Vector: []int{1, 0, 0, 0, 0, 0, 0, 0, 0, 0, 0, 0}}, rows[1:]...)
}

// TestOrder is of P15.1: ErrArg ahead of the income's ErrOver, that ahead of Add's errors, and of those ErrOver ahead of ErrLimit.
func TestOrder(t *testing.T) {
	rows := full()
	l := losses(t, rows...)
	over := in{book: -most, perm: -1, cap: 1, life: 5, year: 6, r: 1}
	mustRefuse(t, l, over, api.ErrOver)
	for _, change := range []func(*in){
		func(x *in) { x.cap = -1 }, func(x *in) { x.cap = whole + 1 }, func(x *in) { x.r = -1 }, func(x *in) { x.r = whole + 1 },
		func(x *in) { x.life = -1 }, func(x *in) { x.life = last + 1 }, func(x *in) { x.year = -1 }, func(x *in) { x.year = last + 1 },
	} {
		x := over
		change(&x)
		mustRefuse(t, l, x, api.ErrArg)
		x.book, x.perm = math.MinInt, math.MinInt
		mustRefuse(t, l, x, api.ErrArg)
		x.book, x.perm = -1, 0 // there would be no vintage for it
		mustRefuse(t, l, x, api.ErrArg)
	}
	mustRefuse(t, l, in{book: -most - 1, life: 5, year: 6}, api.ErrOver)
	mustRefuse(t, l, in{book: -most, life: 5, year: 6}, api.ErrOver)
	mustRefuse(t, l, in{book: l.Left() - most - 1, life: 5, year: 6}, api.ErrOver)
	mustRefuse(t, l, in{book: l.Left() - most, life: 5, year: 6}, api.ErrLimit)
}

// TestIndependent is of P15.1 and R4: the losses before and after go their own ways, also where nothing came of the period.
func TestIndependent(t *testing.T) {
	for _, book := range []int{100, 3, 0, -7} {
		for length := range api.MaxVintages { // with whatever room there is behind a list of this length
			rows := full()[:length]
			l := losses(t, rows...)
			x := in{book: book, cap: whole, life: 99, year: 20, r: 1}
			_, after, _ := x.tax(l)
			next := after.Rows()
			_, again, _ := x.tax(l)
			if after == nil || after == again {
				t.Fatalf("%v: Tax(%+v): the losses after it are not new", rows, x)
			}
			if e := again.Add(20, 119, 1); e != api.OK {
				t.Fatal(e)
			}
			again.Expire(2*last + 1)
			mustHave(t, after, next...)
			l.Expire(2*last + 1)
			mustHave(t, after, next...)
			if e := l.Add(9, 9, 9); e != api.OK {
				t.Fatal(e)
			}
			after.Expire(2*last + 1)
			mustHave(t, l, v(9, 9, 9))
		}
	}
}

// TestVectorIsNew is of R4: what is written over one answer, or behind it, is in no other, nor in the losses.
func TestVectorIsNew(t *testing.T) {
	l := losses(t, v(1, 4, 5), v(2, 9, 30))
	x := in{book: 8, cap: whole, life: 5, year: 4}
	one, after, _ := x.tax(l)
	two, _, _ := x.tax(l)
	for i := range one.Vector {
		one.Vector[i] = -9
	}
	_ = append(one.Vector, -8)
	if !slices.Equal(two.Vector, []int{5, 3}) {
		t.Errorf("what was written over one answer is in %v", two.Vector)
	}
	mustHave(t, after, v(2, 9, 27))
	mustHave(t, l, v(1, 4, 5), v(2, 9, 30))
	mustTax(t, l, x, current.Result{Income: 8, Used: 8, Vector: []int{5, 3}}, v(2, 9, 27))
}

// within reports whether n is from low to high.
func within(n, low, high int) bool { return low <= n && n <= high }

// share is an amount that is not below 0 times a rate, rounded to the nearest, halves up, or down.
func share(n, r int, down bool) int {
	product := new(big.Int).Mul(big.NewInt(int64(n)), big.NewInt(int64(r)))
	if !down {
		product.Add(product, big.NewInt(500000))
	}
	return int(product.Div(product, big.NewInt(1000000)).Int64())
}

// words is the document's words for Tax, on rows in the order of Losses.Rows.
func words(rows []api.Vintage, x in) (current.Result, []api.Vintage, api.Errno) {
	if !within(x.cap, 0, 1000000) || !within(x.r, 0, 1000000) || !within(x.life, 0, 99) || !within(x.year, 0, 99) {
		return current.Result{}, nil, api.ErrArg
	}
	income := new(big.Int).Add(big.NewInt(int64(x.book)), big.NewInt(int64(x.perm)))
	income.Sub(income, big.NewInt(int64(x.moved)))
	for _, n := range []*big.Int{big.NewInt(int64(x.book)), big.NewInt(int64(x.perm)), big.NewInt(int64(x.moved)), income} {
		if n.CmpAbs(big.NewInt(100000000000)) > 0 {
			return current.Result{}, nil, api.ErrOver
		}
	}
	got := current.Result{Income: int(income.Int64())}
	var after []api.Vintage
	left := 0
	for _, row := range rows {
		if row.Expiry < x.year {
			got.Expired += row.Left
		} else {
			after = append(after, row)
			left += row.Left
		}
	}
	if got.Income < 0 {
		return lost(got, after, left, x)
	}
	if got.Income > 0 {
		room := share(got.Income, x.cap, true)
		for i, row := range after {
			n := min(row.Left, room-got.Used)
			got.Vector = append(got.Vector, n)
			got.Used += n
			after[i].Left -= n
		}
		after = slices.DeleteFunc(after, func(row api.Vintage) bool { return row.Left == 0 })
	}
	got.Taxable = got.Income - got.Used
	got.Tax = share(got.Taxable, x.r, false)
	return got, after, api.OK
}

// lost is the rest of the words, where the income is below 0.
func lost(got current.Result, after []api.Vintage, left int, x in) (current.Result, []api.Vintage, api.Errno) {
	got.New = -got.Income
	at := slices.IndexFunc(after, func(row api.Vintage) bool { return row.Origin == x.year && row.Expiry == x.year+x.life })
	switch {
	case left+got.New > 100000000000:
		return current.Result{}, nil, api.ErrOver
	case at >= 0:
		after[at].Left += got.New
	case len(after) >= 12:
		return current.Result{}, nil, api.ErrLimit
	default:
		after = append(after, v(x.year, x.year+x.life, got.New))
		slices.SortFunc(after, func(a, b api.Vintage) int { return cmp.Compare(a.Expiry*1000+a.Origin, b.Expiry*1000+b.Origin) })
	}
	return got, after, api.OK
}

// some returns what a random period has: small or great amounts, and now and then what may not be.
func some(r *rand.Rand, year int, great bool) in {
	pick := func(l ...int) int { return l[r.Intn(len(l))] }
	x := in{book: r.Intn(60) - 30, perm: r.Intn(9) - 4, moved: r.Intn(9) - 4, cap: pick(0, 1, 300000, 800000, whole, r.Intn(whole+1)), life: pick(0, 1, 4, 15, 60, last), year: year, r: pick(0, 1, 250000, 500000, whole, r.Intn(whole+1))}
	if great {
		x.book = pick(most, -most, most/2, -most/2, most/5, -most/5, r.Intn(2*most+1)-most) + pick(0, 0, 1, -1)
		x.perm, x.moved = pick(x.perm, most, -most, most/3), pick(x.moved, most, -most, -most/3)
	}
	switch r.Intn(60) {
	case 0:
		x.cap = wrongRates[r.Intn(len(wrongRates))]
	case 1:
		x.r = wrongRates[r.Intn(len(wrongRates))]
	case 2:
		x.life = wrongYears[r.Intn(len(wrongYears))]
	case 3:
		x.year = wrongYears[r.Intn(len(wrongYears))]
	case 4:
		x.book = wrongMoney[r.Intn(len(wrongMoney))]
	}
	return x
}

// TestModel is of P15.1 and R5: runs of quarters against the document's words.
func TestModel(t *testing.T) {
	r := rand.New(rand.NewSource(15))
	seen := map[api.Errno]int{}
	for run := range 200 {
		l, rows := vintage.New(), []api.Vintage(nil)
		for quarter := range 4 * (last + 1) {
			x := some(r, quarter/4, run%2 == 0)
			want, after, e := words(rows, x)
			seen[e]++
			if e != api.OK {
				mustRefuse(t, l, x, e)
			} else {
				l, rows = mustTax(t, l, x, want, after...), after
			}
			if t.Failed() {
				t.FailNow()
			}
		}
	}
	for _, e := range []api.Errno{api.OK, api.ErrArg, api.ErrOver, api.ErrLimit} {
		if seen[e] < 100 {
			t.Errorf("error %d came up %d times", e, seen[e])
		}
	}
}

// mustBound is of T4, for one period: what is used is left, not expired and at most the cap's share, and of an earlier row all is used ahead of a later one.
func mustBound(t *testing.T, before []api.Vintage, x in, got current.Result) {
	t.Helper()
	live := slices.DeleteFunc(slices.Clone(before), func(row api.Vintage) bool { return row.Expiry < x.year })
	room, _ := rate.Floor(max(got.Income, 0), x.cap)
	if got.Used < 0 || got.Used > room || got.Used != use.Used(got.Vector...) || got.Income > 0 && len(got.Vector) != len(live) {
		t.Fatalf("%v, %+v: %+v", before, x, got)
	}
	earlierLeft := false
	for i, n := range got.Vector {
		if n < 0 || n > live[i].Left || n > 0 && earlierLeft {
			t.Fatalf("%v, %+v: %+v", before, x, got)
		}
		earlierLeft = earlierLeft || n < live[i].Left
	}
}

// TestLosses is of T4: over the years, each close stays within its bounds, and everything that was ever carried forward was used, or expired, or is left.
func TestLosses(t *testing.T) {
	r := rand.New(rand.NewSource(4))
	carriedAll, usedAll, expiredAll := 0, 0, 0
	for range 200 {
		l := vintage.New()
		carried, used, expired := 0, 0, 0
		for quarter := range 4 * (last + 1) {
			x := in{book: r.Intn(2000) - 1000, cap: []int{0, 300000, 800000, whole}[r.Intn(4)], life: r.Intn(3), year: quarter / 4, r: 250000}
			got, after, e := x.tax(l)
			if e != api.OK {
				t.Fatalf("%v: Tax(%+v) = error %d", l.Rows(), x, e)
			}
			mustBound(t, l.Rows(), x, got)
			l = after
			carried, used, expired = carried+got.New, used+got.Used, expired+got.Expired
			if carried != used+expired+l.Left() {
				t.Fatalf("year %d: of %d, %d was used, %d expired, %d is left", x.year, carried, used, expired, l.Left())
			}
		}
		carriedAll, usedAll, expiredAll = carriedAll+carried, usedAll+used, expiredAll+expired
	}
	if usedAll < carriedAll/10 || expiredAll < carriedAll/10 {
		t.Errorf("of %d, only %d was used, and %d expired", carriedAll, usedAll, expiredAll)
	}
}
