package recon_test

import (
	"math"
	"math/big"
	"math/rand"
	"slices"
	"testing"

	"scutage/api"
	"scutage/bucket"
	"scutage/closing"
	"scutage/current"
	"scutage/enact"
	"scutage/posting"
	"scutage/recon"
	"scutage/remeasure"
	"scutage/roll"
	"scutage/vintage"
)

const (
	most       = api.MaxMoney
	whole      = api.MaxRate
	lastPeriod = api.MaxPeriod
)

// amounts are those of the eight items, in the order of their kinds.
type amounts [8]int

// items are those of the amounts, each of its kind.
func items(a amounts) []api.Item {
	var l []api.Item
	for i, n := range a {
		l = append(l, api.Item{Kind: i + 1, Amount: n})
	}
	return l
}

func b(class, year, amount int) api.Bucket {
	return api.Bucket{Class: class, Year: year, Amount: amount}
}

// books are those of a taxpayer of the place "uk", as the closes go on.
type books struct {
	t      *testing.T
	rates  *enact.Table
	losses *vintage.Losses
	r      *bucket.Register
	left   closing.Balances // what the close before left
}

// start has rates of the place that are known from the start, each by its first year.
func start(t *testing.T, rates map[int]int) *books {
	t.Helper()
	x := &books{t, enact.New(), vintage.New(), bucket.New(), closing.None()}
	for year, rate := range rates {
		x.enact(year, rate, 0)
	}
	return x
}

func (x *books) enact(year, rate, at int) {
	x.t.Helper()
	if e := x.rates.Add("uk", year, rate, at); e != api.OK {
		x.t.Fatalf("Add(%d, %d, %d) = %d", year, rate, at, e)
	}
}

func (x *books) move(buckets ...api.Bucket) {
	x.t.Helper()
	for _, k := range buckets {
		if e := x.r.Move(k.Class, k.Year, k.Amount); e != api.OK {
			x.t.Fatalf("%v: Move(%v) = %d", x.r.Rows(), k, e)
		}
	}
}

// tried is a close that may fail; what comes of it is the next one's opening.
func (x *books) tried(in closing.Input) (closing.Provision, api.Errno) {
	in.J = "uk"
	p, after, e := closing.Make(x.rates, in, x.left, x.losses, x.r)
	if e == api.OK {
		x.losses, x.left = after, p.Closing
	}
	return p, e
}

func (x *books) close(in closing.Input) closing.Provision {
	x.t.Helper()
	p, e := x.tried(in)
	if e != api.OK {
		x.t.Fatalf("Make(%+v, %+v) of %v and %v: error %d", in, x.left, x.losses.Rows(), x.r.Rows(), e)
	}
	return p
}

// mustItems holds the items of a provision, P21.2 and T3, with the number of rows that Terms is of.
func mustItems(t *testing.T, p closing.Provision, rows int, want amounts) {
	t.Helper()
	got := recon.Items(p)
	if !slices.Equal(got, items(want)) {
		t.Errorf("Items(%+v) = %v; want %v", p, got, want)
	}
	if sum := recon.Sum(got...); sum != p.Total {
		t.Errorf("%v come to %d; the Total is %d", got, sum, p.Total)
	}
	if cost := posting.Cost(posting.Lines(p)...); cost != recon.Sum(got...) {
		t.Errorf("%v come to %d; the cost that is posted is %d", got, recon.Sum(got...), cost)
	}
	terms := recon.Terms(p)
	if terms != 8+4*rows {
		t.Errorf("%d terms of %d rows: %v", terms, rows, p.Rows)
	}
	if rounding := got[len(got)-1].Amount; 2*max(rounding, -rounding) > terms {
		t.Errorf("Rounding %d of %d terms: %+v", rounding, terms, p)
	}
}

// TestNoEntries is of P21.1 and the document's example: for a period without any entries all amounts are 0, and so for a zero Provision.
func TestNoEntries(t *testing.T) {
	mustItems(t, closing.Provision{}, 0, amounts{})
	for _, rate := range []int{0, 1, 300000, whole} {
		for _, at := range []int{0, 1, 14, lastPeriod - 1} {
			x := start(t, map[int]int{0: rate, 4: rate / 2})
			mustItems(t, x.close(closing.Input{Period: at, Judge: 5}), 0, amounts{})
			mustItems(t, x.close(closing.Input{Period: at + 1, Judge: whole, Cap: whole, Life: 9}), 0, amounts{})
		}
	}
	// what is there, and stays as it is, is no reason for a cost
	x := start(t, map[int]int{0: 300000, 3: 200000})
	x.move(b(1, 2, 100), b(1, 5, -40))
	x.close(closing.Input{Book: -50, Judge: 400000, Life: 20})
	for at := 1; at < 4; at++ {
		mustItems(t, x.close(closing.Input{Period: at, Judge: 400000, Life: 20}), 2, amounts{})
	}
}

// TestStatutory is of P21.1, AtStatutory and Permanent: a share each, halves rounded away from 0; what that is off is the Rounding.
func TestStatutory(t *testing.T) {
	for _, y := range []struct {
		rate, book, perm int
		want             amounts
	}{
		{300000, 10, 0, amounts{3}},
		{300000, 0, 10, amounts{0, 3}},
		{300000, 10, 20, amounts{3, 6}},
		{300000, 10, -10, amounts{3, -3}},
		{300000, -10, 0, amounts{-3}},
		{300000, 0, -10, amounts{0, -3}},
		{300000, 5, 0, amounts{2}}, // 1.5
		{300000, -5, 0, amounts{-2}},
		{300000, 0, 5, amounts{0, 2}},
		{300000, 0, -5, amounts{0, -2}},
		{300000, 5, 5, amounts{2, 2, 0, 0, 0, 0, 0, -1}},
		{300000, -5, -5, amounts{-2, -2, 0, 0, 0, 0, 0, 1}},
		{300000, 1, 1, amounts{0, 0, 0, 0, 0, 0, 0, 1}}, // 0.3 each, and 0.6
		{300000, -1, -1, amounts{0, 0, 0, 0, 0, 0, 0, -1}},
		{300000, 2, 2, amounts{1, 1, 0, 0, 0, 0, 0, -1}}, // 0.6 each, and 1.2
		{300000, 5, -10, amounts{2, -3, 0, 0, 0, 0, 0, -1}},
		{300000, -5, 10, amounts{-2, 3, 0, 0, 0, 0, 0, 1}},
		{500000, 1, 1, amounts{1, 1, 0, 0, 0, 0, 0, -1}},
		{0, 1000, -7, amounts{}},
		{1, most, 0, amounts{100000}},
		{whole, 7, -3, amounts{7, -3}},
		{whole, most, 0, amounts{most}},
		{whole, 0, most, amounts{0, most}},
		{whole, most, -most, amounts{most, -most}},
		{whole, -most, most, amounts{-most, most}},
		{whole, -most, 0, amounts{-most}},
		{999999, most, -1, amounts{99999900000, -1}},
	} {
		x := start(t, map[int]int{0: y.rate})
		mustItems(t, x.close(closing.Input{Period: 14, Book: y.book, Perm: y.perm, Life: 9}), 0, y.want)
	}
}

// TestOwnRate is of P21.1: the rate is that of the period's year as it is known in the period.
func TestOwnRate(t *testing.T) {
	x := start(t, map[int]int{0: 100000, 1: 200000, 2: 400000})
	x.enact(1, 300000, 5)
	x.enact(1, 500000, 6)
	for at, want := range map[int]int{0: 100, 3: 100, 4: 200, 5: 300, 6: 500, 7: 500, 8: 400, lastPeriod: 400} {
		mustItems(t, x.close(closing.Input{Period: at, Book: 1000, Perm: 10}), 0, amounts{want, want / 100})
	}
}

// TestRateDiffRows is of P21.1, RateDiff: each row's movement at its own rate, less at the period's, each share rounded.
func TestRateDiffRows(t *testing.T) {
	for _, y := range []struct {
		moves []api.Bucket
		want  amounts
	}{
		{[]api.Bucket{b(1, 2, 100)}, amounts{30}}, // the rate is the same
		{[]api.Bucket{b(1, 0, 100)}, amounts{30}}, // of a year before
		{[]api.Bucket{b(1, 5, 100)}, amounts{30, 0, -10}},
		{[]api.Bucket{b(1, 5, -100)}, amounts{-30, 0, 10}},
		{[]api.Bucket{b(1, 7, 100)}, amounts{30, 0, 20}},
		{[]api.Bucket{b(1, 7, -100)}, amounts{-30, 0, -20}},
		{[]api.Bucket{b(1, 2, 100), b(1, 5, 100), b(2, 5, 10), b(2, 7, -10)}, amounts{60, 0, -10 - 1 - 2}},
		{[]api.Bucket{b(1, 5, 3), b(2, 5, 3)}, amounts{2}},        // 0.6 - 0.9, twice
		{[]api.Bucket{b(1, 5, 2), b(2, 5, 1)}, amounts{1, 0, -1}}, // 0.4 - 0.6, and 0.2 - 0.3
		{[]api.Bucket{b(1, 5, 5), b(2, 5, -5)}, amounts{0}},       // 1 - 1.5, and back
		{[]api.Bucket{b(1, 5, 5)}, amounts{2, 0, -1}},
		{[]api.Bucket{b(1, 7, 1)}, amounts{0, 0, 1}}, // 0.5 - 0.3
		{[]api.Bucket{b(1, 7, -1)}, amounts{0, 0, -1}},
		{[]api.Bucket{b(9, 99, most)}, amounts{3 * most / 10, 0, 2 * most / 10}},
		{[]api.Bucket{b(9, 99, -most)}, amounts{-3 * most / 10, 0, -2 * most / 10}},
	} {
		x, book := start(t, map[int]int{0: 300000, 4: 200000, 6: 500000}), 0
		x.move(y.moves...)
		for _, k := range y.moves {
			book += k.Amount
		}
		// the income is 0: there is no tax, and no loss
		mustItems(t, x.close(closing.Input{Period: 4, Book: book}), len(y.moves), y.want)
	}
}

// TestRateDiffMovement is of P21.1, RateDiff: it is what moved that counts, not what was or is.
func TestRateDiffMovement(t *testing.T) {
	x := start(t, map[int]int{0: 300000, 3: 200000})
	x.move(b(1, 5, 100), b(1, 6, 100), b(2, 2, 50))
	mustItems(t, x.close(closing.Input{Book: 250}), 3, amounts{75, 0, -20})
	x.move(b(1, 5, -100), b(1, 6, 40), b(2, 7, 10))
	mustItems(t, x.close(closing.Input{Period: 1, Book: -50}), 4, amounts{-15, 0, 10 - 4 - 1})
	x.move(b(1, 5, 20), b(2, 2, -50))
	mustItems(t, x.close(closing.Input{Period: 2, Book: -30}), 4, amounts{-9, 0, -2})

	// as many rows as there can be: all is gone into a year of another rate
	x = start(t, map[int]int{0: 300000, 50: 200000})
	for n := range api.MaxBuckets {
		x.move(b(1, n, 10))
	}
	x.close(closing.Input{Book: 120})
	for n := range api.MaxBuckets {
		x.move(b(1, n, -10), b(2, 60+n, 10))
	}
	mustItems(t, x.close(closing.Input{Period: 1}), 2*api.MaxBuckets, amounts{0, 0, -12})

	// movements beyond Money: the whole of them goes from one side to the other
	x = start(t, map[int]int{0: 100000, 3: 250000})
	x.move(b(1, 1, most), b(1, 5, -most))
	mustItems(t, x.close(closing.Input{}), 2, amounts{0, 0, -15 * most / 100})
	x.move(b(1, 1, -most), b(1, 5, most))
	x.move(b(1, 1, -most), b(1, 5, most))
	mustItems(t, x.close(closing.Input{Period: 1}), 2, amounts{0, 0, 30 * most / 100})
}

// TestRateDiffLosses is of P21.1, RateDiff: what is used, less what is new, at the next year's rate, less at the period's.
func TestRateDiffLosses(t *testing.T) {
	rates := map[int]int{0: 300000, 3: 200000}
	for _, y := range []struct {
		at, book int
		want     amounts
	}{
		{7, -100, amounts{-30}}, // the next year's rate is the same
		{8, -100, amounts{-30, 0, 10}},
		{11, -100, amounts{-30, 0, 10}},
		{12, -100, amounts{-20}},
		{8, -1, amounts{}},
		{8, -2, amounts{-1, 0, 1}}, // 0.6 and 0.4
		{8, -3, amounts{-1}},       // 0.9 and 0.6
		{8, -5, amounts{-2, 0, 1}}, // 1.5 and 1
		{8, -most, amounts{-3 * most / 10, 0, most / 10}},
	} {
		x := start(t, rates)
		mustItems(t, x.close(closing.Input{Period: y.at, Book: y.book, Life: 9}), 0, y.want)
	}
	// 1000 of losses, in the year before the rate changes
	for _, y := range []struct {
		book, cap int
		want      amounts
	}{
		{100, whole, amounts{30, 0, -10}},
		{100, 500000, amounts{30, 0, -5}},
		{100, 0, amounts{30}},
		{5000, whole, amounts{1500, 0, -100}},
		{5, whole, amounts{2, 0, -1}}, // 1.5 and 1
		{2, whole, amounts{1, 0, -1}}, // 0.6 and 0.4
		{3, whole, amounts{1}},        // 0.9 and 0.6
		{-100, whole, amounts{-30, 0, 10}},
	} {
		x := start(t, rates)
		x.close(closing.Input{Period: 8, Book: -1000, Life: 9})
		mustItems(t, x.close(closing.Input{Period: 9, Book: y.book, Cap: y.cap, Life: 9}), 0, y.want)
	}
	x := start(t, map[int]int{0: 0, 3: whole})
	x.close(closing.Input{Period: 8, Book: -most, Life: 9})
	mustItems(t, x.close(closing.Input{Period: 9, Book: most, Cap: whole}), 0, amounts{0, 0, most})
}

// TestRemeasured is of P21.1, Remeasured: what came of other rates, of buckets and of losses.
func TestRemeasured(t *testing.T) {
	x := start(t, map[int]int{0: 300000})
	x.move(b(1, 5, 100), b(2, 6, -30))
	mustItems(t, x.close(closing.Input{Book: 30, Life: 20}), 2, amounts{9}) // 40 of losses
	x.enact(5, 200000, 1)                                                   // of the buckets
	mustItems(t, x.close(closing.Input{Period: 1, Life: 20}), 2, amounts{0, 0, 0, -10 + 3})
	x.enact(1, 100000, 2) // of the losses
	mustItems(t, x.close(closing.Input{Period: 2, Life: 20}), 2, amounts{0, 0, 0, 12 - 4})
	x.enact(1, 400000, 4)
	x.enact(5, 500000, 4) // of both, and of the period
	mustItems(t, x.close(closing.Input{Period: 4, Life: 20}), 2, amounts{0, 0, 0, 30 - 9 + 4 - 16})
	// losses are carried forward into a year of another rate
	x = start(t, map[int]int{0: 300000, 3: 200000})
	x.close(closing.Input{Period: 4, Book: -100, Life: 20})
	mustItems(t, x.close(closing.Input{Period: 7, Life: 20}), 0, amounts{})
	mustItems(t, x.close(closing.Input{Period: 8, Life: 20}), 0, amounts{0, 0, 0, 10})
	mustItems(t, x.close(closing.Input{Period: 12, Life: 20}), 0, amounts{})
	// what is used, or moves, is remeasured before
	x = start(t, map[int]int{0: 300000})
	x.move(b(1, 5, 100))
	x.close(closing.Input{Life: 20})
	x.enact(1, 200000, 1)
	x.move(b(1, 5, -40))
	mustItems(t, x.close(closing.Input{Period: 1, Cap: whole, Life: 20}), 1, amounts{0, 0, 4 - 4, -10 + 10})
	// all there can be of one part
	x = start(t, map[int]int{0: 0})
	x.move(b(1, 5, most))
	x.close(closing.Input{Book: most})
	x.enact(5, whole, 1)
	mustItems(t, x.close(closing.Input{Period: 1}), 1, amounts{0, 0, 0, most})
}

// TestAllowChange is of P21.1, AllowChange: above 0 where the allowance grows.
func TestAllowChange(t *testing.T) {
	x := start(t, map[int]int{0: 300000})
	for at, y := range []struct {
		book, judge int
		want        amounts
	}{
		{-100, 400000, amounts{-30, 0, 0, 0, 12}},
		{0, 400000, amounts{}},
		{0, whole, amounts{0, 0, 0, 0, 18}},
		{0, 0, amounts{0, 0, 0, 0, -30}},
		{0, 50000, amounts{0, 0, 0, 0, 2}}, // 1.5
		{40, 50000, amounts{12, 0, 0, 0, -1}},
		{-100, 500000, amounts{-30, 0, 0, 0, 23}},
		{160, 500000, amounts{48, 0, 0, 0, -24}},
	} {
		mustItems(t, x.close(closing.Input{Period: at, Book: y.book, Judge: y.judge, Cap: whole, Life: 20}), 0, y.want)
	}
	x = start(t, map[int]int{0: whole})
	mustItems(t, x.close(closing.Input{Book: -most, Judge: whole, Life: 20}), 0, amounts{-most, 0, 0, 0, most})
	mustItems(t, x.close(closing.Input{Period: 1, Life: 20}), 0, amounts{0, 0, 0, 0, -most})
}

// TestExpired is of P21.1, Expired: at the rate of the next year, as the close knows it.
func TestExpired(t *testing.T) {
	for _, y := range []struct {
		at   int
		want amounts
	}{
		{11, amounts{}},
		{12, amounts{0, 0, 0, 10, 0, 20}}, // the period's rate is the opening's
		{16, amounts{0, 0, 0, 10, 0, 20}},
		{20, amounts{0, 0, 0, 30}}, // a rate of nothing
		{lastPeriod, amounts{0, 0, 0, 30}},
	} {
		x := start(t, map[int]int{0: 300000, 4: 200000, 6: 0})
		x.close(closing.Input{Period: 8, Book: -100})
		mustItems(t, x.close(closing.Input{Period: y.at, Cap: whole}), 0, y.want)
	}
	expiring := func(left int) *books {
		x := start(t, map[int]int{0: 300000, 4: 200000})
		x.close(closing.Input{Period: 8, Book: -left})
		return x
	}
	// what is expired can't be used
	mustItems(t, expiring(100).close(closing.Input{Period: 12, Book: 50, Cap: whole}), 0, amounts{15, 0, 0, 10, 0, 20})
	// another loss is left, and one is new: 47 at 200000 are 9, and opened with 28
	x := expiring(100)
	x.close(closing.Input{Period: 9, Book: -40, Life: 5})
	mustItems(t, x.close(closing.Input{Period: 12, Book: -7, Life: 5}), 0, amounts{-2, 0, 1, 14, 0, 20})
	// with its allowance
	x = expiring(100)
	mustItems(t, x.close(closing.Input{Period: 9, Judge: 500000}), 0, amounts{0, 0, 0, 0, 15})
	mustItems(t, x.close(closing.Input{Period: 12, Judge: 500000}), 0, amounts{0, 0, 0, 10, -15, 20})
	// halves away from 0: 3 at 500000
	x = start(t, map[int]int{0: 500000})
	x.close(closing.Input{Book: -3})
	mustItems(t, x.close(closing.Input{Period: 4}), 0, amounts{0, 0, 0, 0, 0, 2})
	x = start(t, map[int]int{0: whole})
	x.close(closing.Input{Book: -most})
	mustItems(t, x.close(closing.Input{Period: 4}), 0, amounts{0, 0, 0, 0, 0, most})
}

// TestTrueUp is of P21.1, TrueUp: as it is, without a share.
func TestTrueUp(t *testing.T) {
	for _, n := range []int{0, 1, -1, 7, -7, most, -most} {
		mustItems(t, start(t, map[int]int{0: 300000}).close(closing.Input{TrueUp: n}), 0, amounts{0, 0, 0, 0, 0, 0, n})
	}
	mustItems(t, start(t, map[int]int{0: 300000}).close(closing.Input{Book: 10, Perm: -20, TrueUp: -5}), 0, amounts{3, -6, 0, 0, 0, 0, -5})
}

// TestRounding is of P21.1 and P21.2, Rounding: what many rows are off, to either side.
func TestRounding(t *testing.T) {
	all := func(n int) []api.Bucket {
		var l []api.Bucket
		for year := range api.MaxBuckets {
			l = append(l, b(3, 10+year, n))
		}
		return l
	}
	for _, y := range []struct {
		rate, was, is int
		want          amounts
	}{
		{400000, 0, 1, amounts{5, 0, 0, 0, 0, 0, 0, -5}}, // each 0.4
		{400000, 0, -1, amounts{-5, 0, 0, 0, 0, 0, 0, 5}},
		{500000, 0, 1, amounts{6, 0, 0, 0, 0, 0, 0, 6}}, // each 0.5
		{500000, 0, -1, amounts{-6, 0, 0, 0, 0, 0, 0, -6}},
		{500000, -1, 1, amounts{12, 0, 0, 0, 0, 0, 0, 12}}, // on either side of 0
		{500000, 1, -1, amounts{-12, 0, 0, 0, 0, 0, 0, -12}},
		{500000, 1, 2, amounts{6, 0, 0, 0, 0, 0, 0, -6}},
		{whole, -1, 1, amounts{24}},
		{0, -1, 1, amounts{}},
	} {
		x, before := start(t, map[int]int{0: y.rate}), 0
		if y.was != 0 {
			x.move(all(y.was)...)
			x.close(closing.Input{Book: 12 * y.was})
			before = 12 * y.was
		}
		x.move(all(y.is - y.was)...)
		mustItems(t, x.close(closing.Input{Period: 1, Book: 12*y.is - before}), 12, y.want)
	}
	// rows of another rate than the period's: each is 1 - 0.4
	x := start(t, map[int]int{0: 400000, 9: whole})
	x.move(all(1)...)
	mustItems(t, x.close(closing.Input{Book: 12}), 12, amounts{5, 0, 12, 0, 0, 0, 0, -5})
}

// TestTerms is of P21.1, Terms: each row counts, also that of a bucket that is gone, or that didn't move.
func TestTerms(t *testing.T) {
	x := start(t, map[int]int{0: 300000})
	for n := 1; n <= api.MaxBuckets; n++ {
		x.move(b(1, n, 10))
		mustItems(t, x.close(closing.Input{Period: n, Book: 10}), n, amounts{3})
	}
	for n := 1; n <= api.MaxBuckets; n++ {
		x.move(b(1, n, -10), b(2, n, 10))
	}
	mustItems(t, x.close(closing.Input{Period: 20}), 2*api.MaxBuckets, amounts{})
	mustItems(t, x.close(closing.Input{Period: 21}), api.MaxBuckets, amounts{})
	for n := range 100 {
		p := closing.Provision{Rows: make([]roll.Row, n), Now: make([]int, n)}
		if got := recon.Terms(p); got != 8+4*n {
			t.Errorf("%d terms of %d rows", got, n)
		}
	}
}

// TestAll is of P21.1: closes after each other that have all the items.
func TestAll(t *testing.T) {
	x := start(t, map[int]int{0: 300000, 2: 200000, 4: 100000})
	// an income of -45, all of it new: 13.5; 1.5 of what is permanent
	x.move(b(1, 3, 150), b(2, 5, -60))
	mustItems(t, x.close(closing.Input{Period: 0, Book: 40, Perm: 5, Judge: 500000, Life: 0, TrueUp: 3}), 2,
		amounts{12, 2, 30 - 45 - 6 + 18, 0, 7, 0, 3, -1})
	// 45 expired; the next year's rate is 200000; an income of -25, all of it new
	x.enact(3, 250000, 5)
	x.move(b(1, 3, -50), b(2, 5, 60), b(3, 1, 5))
	mustItems(t, x.close(closing.Input{Period: 5, Book: -5, Perm: -5, Judge: whole, Life: 9, TrueUp: -4}), 3,
		amounts{-2, -2, -13 + 15 + 6 - 18 - 5 + 8, 38 - 30 + 14 - 9, -2, 9, -4, 1})
	// an income of 21, a third of it of losses; their rate is 250000 now
	x.enact(2, 400000, 8)
	x.move(b(3, 1, 3))
	mustItems(t, x.close(closing.Input{Period: 8, Book: 22, Perm: 2, Judge: 0, Cap: 333334, Life: 9}), 2,
		amounts{9, 1, 2 - 3, 2 - 2 + 5 - 6, -5, 0, 0, -1})
}

// mustSum holds what items come to, and that they stay as they are.
func mustSum(t *testing.T, want int, l ...api.Item) {
	t.Helper()
	was := slices.Clone(l)
	if got := recon.Sum(l...); got != want {
		t.Errorf("Sum(%v) = %d; want %d", l, got, want)
	}
	if !slices.Equal(l, was) {
		t.Errorf("Sum(%v) has made them %v", was, l)
	}
}

// TestSum is of P21.1, Sum: all amounts, of whatever kinds, however many and great.
func TestSum(t *testing.T) {
	mustSum(t, 0)
	mustSum(t, 0, []api.Item{}...)
	mustSum(t, 255, items(amounts{1, 2, 4, 8, 16, 32, 64, 128})...)
	mustSum(t, -255, items(amounts{-1, -2, -4, -8, -16, -32, -64, -128})...)
	for _, kind := range []int{0, -1, 1, 2, 3, 4, 5, 6, 7, 8, 9, 100, math.MaxInt, math.MinInt} {
		for _, n := range []int{0, 1, -1, most, -most, most + 1, math.MaxInt, math.MinInt} {
			mustSum(t, n, api.Item{Kind: kind, Amount: n})
			mustSum(t, n, api.Item{Kind: kind, Amount: n}, api.Item{Kind: kind})
			mustSum(t, n/2-3, api.Item{Kind: 1, Amount: 5}, api.Item{Kind: kind, Amount: n / 2}, api.Item{Kind: kind, Amount: -8})
		}
	}
	mustSum(t, 8*most, items(amounts{most, most, most, most, most, most, most, most})...)
	mustSum(t, -1, items(amounts{math.MaxInt, math.MinInt})...)
	mustSum(t, math.MaxInt, items(amounts{math.MaxInt, 5, -5})...) // partial sums may be greater
	for _, times := range []int{9, 40, 41, 5000} {
		mustSum(t, times*most, slices.Repeat([]api.Item{{Kind: 3, Amount: most}}, times)...)
	}
}

// TestStrange is of R1: a provision that no Make made has no meaning, but does no harm.
func TestStrange(t *testing.T) {
	wild := []int{-1, most + 1, -most - 1, 4*most + 1, math.MaxInt, math.MinInt, math.MinInt + 1}
	var provisions []closing.Provision
	for _, n := range wild {
		all := closing.Provision{
			Input:   closing.Input{Book: n, Perm: n, TrueUp: n},
			Rate:    n,
			Closing: closing.Balances{Next: n},
			Current: current.Result{Used: n, New: -n, Expired: n},
			Rows:    []roll.Row{{Class: n, Year: n, Opening: n, Movement: n, Closing: n}},
			Now:     []int{n},
			Temp:    remeasure.Change{Moved: n, Rates: n}, LossRates: n, AllowMoved: n, Total: n,
		}
		few, many := all, all
		few.Now, many.Now = nil, []int{1, n, n}
		provisions = append(provisions, all, few, many, closing.Provision{Rate: n}, closing.Provision{Total: n})
	}
	rows := make([]roll.Row, 9)
	for i := range rows {
		rows[i] = roll.Row{Class: 1, Year: i, Movement: 10, Closing: 10}
	}
	provisions = append(provisions, closing.Provision{Rate: 1, Rows: rows, Now: []int{1, 2, 3}}, closing.Provision{Rate: 1, Now: []int{1, 2, 3}})
	for _, p := range provisions {
		got := recon.Items(p)
		if recon.Sum(got...) != p.Total || recon.Terms(p) != 8+4*len(p.Rows) {
			t.Errorf("%+v: %v, %d terms", p, got, recon.Terms(p))
		}
		for i, item := range got {
			if item.Kind != i+1 || len(got) != 8 {
				t.Errorf("%+v: %v", p, got)
			}
		}
	}
}

// TestMade is of P21.1: what a provision has beside what the items are of does not change them.
func TestMade(t *testing.T) {
	x := start(t, map[int]int{0: 300000, 3: 200000})
	x.move(b(1, 5, 100))
	x.close(closing.Input{Book: -100, Judge: 500000, Life: 20})
	x.enact(1, 250000, 1)
	x.move(b(1, 5, 11), b(2, 1, -7))
	p := x.close(closing.Input{Period: 1, Book: 400, Perm: 7, Judge: 100000, Cap: 300000, Life: 20, TrueUp: 9})
	want, terms := recon.Items(p), recon.Terms(p)
	for i, change := range []func(p *closing.Provision){
		func(p *closing.Provision) { p.Input.J, p.Input.Period, p.Input.Judge = "us", 9, 9 },
		func(p *closing.Provision) { p.Input.Cap, p.Input.Life = 9, 9 },
		func(p *closing.Provision) { p.Opening = closing.None() },
		func(p *closing.Provision) { p.Closing = closing.Balances{Next: p.Closing.Next} },
		func(p *closing.Provision) { p.Current.Income, p.Current.Taxable, p.Current.Tax = 1, 2, 3 },
		func(p *closing.Provision) { p.Current.Vector = nil },
		func(p *closing.Provision) { p.Temp.Moved, p.LossMoved, p.Deferred = 1, 2, 3 },
		func(p *closing.Provision) {
			p.Rows = slices.Clone(p.Rows)
			for i := range p.Rows {
				p.Rows[i] = roll.Row{Movement: p.Rows[i].Movement}
			}
		},
	} {
		other := p
		change(&other)
		if got := recon.Items(other); !slices.Equal(got, want) || recon.Terms(other) != terms {
			t.Errorf("change %d: %v, %d terms; want %v, %d", i, got, recon.Terms(other), want, terms)
		}
	}
}

// TestMemory is of R4: items are new each time; a provision and items stay as they are; what lies behind lists is not read.
func TestMemory(t *testing.T) {
	x := start(t, map[int]int{0: 300000, 3: 200000})
	x.move(b(1, 5, 100), b(2, 6, 70))
	p := x.close(closing.Input{Period: 1, Book: 50, Cap: whole, Life: 9, TrueUp: 5})
	rows, now := slices.Clone(p.Rows), slices.Clone(p.Now)
	first, second := recon.Items(p), recon.Items(p)
	want := slices.Clone(second)
	all := first[:cap(first)]
	for i := range all {
		all[i] = api.Item{Kind: 9, Amount: 9}
	}
	_ = append(first, api.Item{Kind: 9, Amount: 9})
	if !slices.Equal(second, want) || !slices.Equal(recon.Items(p), want) {
		t.Errorf("%v and %v; want %v", second, recon.Items(p), want)
	}
	if !slices.Equal(p.Rows, rows) || !slices.Equal(p.Now, now) {
		t.Errorf("Items has made %v and %v into %v and %v", rows, now, p.Rows, p.Now)
	}
	p.Rows = append(p.Rows, roll.Row{Class: 9, Year: 9, Movement: most, Closing: most})[:2]
	p.Now = append(p.Now, whole)[:2]
	if !slices.Equal(recon.Items(p), want) || recon.Terms(p) != 16 {
		t.Errorf("%v, %d terms; want %v", recon.Items(p), recon.Terms(p), want)
	}
	l := items(amounts{1, 2, 4, 8})
	mustSum(t, 7, l[:3]...)
	mustSum(t, 0, l[:0]...)
	mustSum(t, 4, append(make([]api.Item, 3, 100), l[2])...)
	if !slices.Equal(l, items(amounts{1, 2, 4, 8})) {
		t.Error(l)
	}
}

// of is n times r divided by a million, halves rounded away from 0, without bounds.
func of(n, r int) *big.Int {
	x := new(big.Int).Mul(big.NewInt(int64(n)), big.NewInt(int64(r)))
	sign := int64(x.Sign())
	x.Abs(x).Add(x, big.NewInt(whole/2)).Quo(x, big.NewInt(whole))
	return x.Mul(x, big.NewInt(sign))
}

// words is the document's words for Items, from what a close was given and left.
func words(p closing.Provision) amounts {
	r, next := p.Rate, p.Closing.Next
	sum := func(l ...*big.Int) int {
		all := new(big.Int)
		for _, n := range l {
			all.Add(all, n)
		}
		return int(all.Int64())
	}
	minus := func(n *big.Int) *big.Int { return new(big.Int).Neg(n) }
	number := func(n int) *big.Int { return big.NewInt(int64(n)) }

	var a amounts
	a[0], a[1] = sum(of(p.Input.Book, r)), sum(of(p.Input.Perm, r))
	used := p.Current.Used - p.Current.New
	rateDiff := []*big.Int{of(used, next), minus(of(used, r))}
	for i, row := range p.Rows {
		rateDiff = append(rateDiff, of(row.Closing-row.Opening, p.Now[i]), minus(of(row.Closing-row.Opening, r)))
	}
	a[2] = sum(rateDiff...)
	a[3] = sum(number(p.Temp.Rates), of(p.Opening.Left, p.Opening.Next), minus(of(p.Opening.Left, next)))
	a[4] = p.Opening.Allow - p.Closing.Allow
	a[5] = sum(of(p.Current.Expired, next))
	a[6] = p.Input.TrueUp
	cost := p.Current.Tax + p.Input.TrueUp + p.Opening.Temp + p.Opening.Loss + p.Opening.Allow - p.Closing.Temp - p.Closing.Loss - p.Closing.Allow
	a[7] = cost - a[0] - a[1] - a[2] - a[3] - a[4] - a[5] - a[6]
	return a
}

// someMoney is small, or of any size, or at a bound.
func someMoney(r *rand.Rand, great bool) int {
	if !great || r.Intn(3) == 0 {
		return r.Intn(400) - 200
	}
	return []int{most, -most, most - 1, r.Intn(2*most+1) - most, r.Intn(2*most+1) - most}[r.Intn(5)]
}

func someRate(r *rand.Rand) int {
	return []int{0, whole, 500000, r.Intn(whole + 1), r.Intn(whole + 1)}[r.Intn(5)]
}

// seen counts which amounts are not 0.
func (a amounts) seen(counts *amounts) {
	for i, n := range a {
		if n != 0 {
			counts[i]++
		}
	}
}

// TestModel is of P21.1, P21.2, T3 and R6: random closes after each other against the document's words.
func TestModel(t *testing.T) {
	r := rand.New(rand.NewSource(21))
	var counts amounts
	for run := range 3000 {
		great := run%4 == 0
		x := start(t, map[int]int{0: someRate(r)})
		for range r.Intn(8) {
			x.rates.Add("uk", r.Intn(6), someRate(r), r.Intn(16)) // one that is there is refused, which does no harm
		}
		for at := r.Intn(3); at < 20; at += 1 + r.Intn(4) {
			for range r.Intn(6) {
				x.r.Move(1+r.Intn(3), r.Intn(8), someMoney(r, great))
			}
			in := closing.Input{Period: at, Book: someMoney(r, great), Judge: someRate(r), Cap: someRate(r), Life: r.Intn(3)}
			if r.Intn(2) == 0 {
				in.Perm, in.TrueUp = someMoney(r, great), someMoney(r, great)
			}
			p, e := x.tried(in)
			if e != api.OK {
				mustItems(t, p, 0, amounts{})
				continue
			}
			want := words(p)
			want.seen(&counts)
			mustItems(t, p, len(p.Rows), want)
			if t.Failed() {
				t.FailNow()
			}
		}
	}
	for i, n := range counts {
		if n < 1000 {
			t.Errorf("of little use: item %d is not 0 in %d only", i+1, n)
		}
	}
}

// TestExact is of P21.2: where no share is rounded, the items alone come to the cost.
func TestExact(t *testing.T) {
	r := rand.New(rand.NewSource(2121))
	percent := func() int { return 10000 * r.Intn(101) }
	money := func() int { return 1000000 * (r.Intn(400) - 200) }
	var counts amounts
	for range 1000 {
		x := start(t, map[int]int{0: percent()})
		for range r.Intn(8) {
			x.rates.Add("uk", r.Intn(6), percent(), r.Intn(16))
		}
		for at := 0; at < 20; at += 1 + r.Intn(4) {
			for range r.Intn(6) {
				x.r.Move(1+r.Intn(3), r.Intn(8), money())
			}
			in := closing.Input{Period: at, Book: money(), Perm: money(), Judge: percent(), Cap: percent(), Life: r.Intn(3), TrueUp: r.Intn(100)}
			p, e := x.tried(in)
			if e != api.OK {
				continue
			}
			got := recon.Items(p)
			var a amounts
			for i := range min(len(a), len(got)) {
				a[i] = got[i].Amount
			}
			a.seen(&counts)
			if len(got) != len(a) || a[7] != 0 || recon.Sum(got[:7]...) != p.Total {
				t.Fatalf("%+v: %v", p, got)
			}
		}
	}
	for i, n := range counts[:7] {
		if n < 500 {
			t.Errorf("of little use: item %d is not 0 in %d only", i+1, n)
		}
	}
}
