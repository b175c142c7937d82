package allow_test

import (
	"math"
	"math/big"
	"math/rand"
	"testing"

	"scutage/allow"
	"scutage/api"
	"scutage/measure"
	"scutage/rate"
)

const (
	most  = api.MaxMoney
	whole = api.MaxRate
)

// wrong numbers of each kind: one past each bound, far past it, and what goes round when it is negated, multiplied or cut short.
var (
	common      = []int{1 << 62, -1 << 62, math.MaxInt - 1, math.MaxInt, math.MinInt, math.MinInt + 1, math.MinInt + 5}
	wrongAssets = append([]int{-1, -2, -5, -most + 1, -most, -most - 1, most + 1, most + 2, 2 * most, 4 * most, 4*most + 1, -4 * most, 1 << 40, -1 << 40}, common...)
	wrongRates  = append([]int{-1, -2, -whole, whole + 1, whole + 2, 2 * whole, api.MaxFx, api.MaxFx + 1, 1 << 32, 1<<32 + 5, -1 << 32}, common...)
)

func mustOf(t *testing.T, asset, r, want int) {
	t.Helper()
	if n, e := allow.Of(asset, r); n != want || e != api.OK {
		t.Errorf("Of(%d, %d) = %d, error %d; want %d", asset, r, n, e, want)
	}
}

// mustRefuse holds the error, and that there is no allowance with it (R3).
func mustRefuse(t *testing.T, asset, r int) {
	t.Helper()
	if n, e := allow.Of(asset, r); n != 0 || e != api.ErrArg {
		t.Errorf("Of(%d, %d) = %d, error %d; want 0, error %d", asset, r, n, e, api.ErrArg)
	}
}

// words is the document's words for Of, in numbers without bounds: the share rounded to the nearest, halves away from 0, and negated.
func words(asset, r int) int {
	x := new(big.Int).Mul(big.NewInt(int64(asset)), big.NewInt(int64(r)))
	x.Add(x, big.NewInt(500000))
	x.Div(x, big.NewInt(1000000))
	return int(x.Neg(x).Int64())
}

// TestOf is of P18.1, Of: ordinary assets, nothing of one, and all of it.
func TestOf(t *testing.T) {
	mustOf(t, 100, 400000, -40) // the document's
	mustOf(t, 1000, 300000, -300)
	mustOf(t, 1000, 1, 0)
	mustOf(t, 7, 0, 0)
	mustOf(t, 7, whole, -7)
	mustOf(t, 0, 0, 0)
	mustOf(t, 0, 1, 0)
	mustOf(t, 0, 400000, 0)
	mustOf(t, 0, whole, 0)
}

// TestOfRounded is of P18.1, Of: to the nearest, and a half takes the allowance away from 0.
func TestOfRounded(t *testing.T) {
	for _, x := range []struct{ asset, rate, want int }{
		{1, 499999, 0}, {1, 500000, -1}, {1, 500001, -1}, {1, 999999, -1},
		{3, 500000, -2}, {5, 500000, -3}, {2, 250000, -1}, {2, 249999, 0}, {2, 749999, -1}, {2, 750000, -2},
		{5, 300000, -2}, {5, 299999, -1}, {10, 140000, -1}, {10, 150000, -2}, {10, 160000, -2},
		{499999, 1, 0}, {500000, 1, -1}, {1499999, 1, -1}, {1500000, 1, -2},
	} {
		mustOf(t, x.asset, x.rate, x.want)
	}
}

// TestOfBounds is of P18.1, Of: the greatest assets and rates, which are whole in the answer.
func TestOfBounds(t *testing.T) {
	mustOf(t, most, whole, -most)
	mustOf(t, most-1, whole, -most+1)
	mustOf(t, most, whole-1, -99999900000)
	mustOf(t, most-1, whole-1, -99999899999)
	mustOf(t, most, 1, -100000)
	mustOf(t, most, 0, 0)
	mustOf(t, most, 500000, -most/2)
	mustOf(t, most-1, 500000, -most/2) // a half
	mustOf(t, 1, whole, -1)
}

// TestOfRefuses is of P18.1, Of: a wrong asset at each rate, a wrong rate with each asset, and both.
func TestOfRefuses(t *testing.T) {
	for _, asset := range wrongAssets {
		for _, r := range []int{0, 1, 400000, whole - 1, whole} {
			mustRefuse(t, asset, r)
		}
		for _, r := range wrongRates {
			mustRefuse(t, asset, r)
		}
	}
	for _, r := range wrongRates {
		for _, asset := range []int{0, 1, 100, most - 1, most} {
			mustRefuse(t, asset, r)
		}
	}
}

// TestOfAgainstBig is of P18.1, Of, and R6: small assets and rates near each bound and each half, and random ones, against numbers without bounds.
func TestOfAgainstBig(t *testing.T) {
	for asset := range 40 {
		for r := range 40 {
			for _, near := range []int{r, 250000 + r - 20, 500000 + r - 20, 750000 + r - 20, whole - r} {
				mustOf(t, asset, near, words(asset, near))
				mustOf(t, most-asset, near, words(most-asset, near))
			}
		}
	}
	r := rand.New(rand.NewSource(18))
	for range 100000 {
		asset, part := r.Intn(most+1), r.Intn(whole+1)
		if r.Intn(2) == 0 {
			asset = r.Intn(100)
		}
		mustOf(t, asset, part, words(asset, part))
		if t.Failed() {
			t.FailNow()
		}
	}
}

// TestOfWithRate is of P18.1, Of: it is rate.Of, negated, where both of its arguments may be.
func TestOfWithRate(t *testing.T) {
	for _, asset := range []int{0, 1, 2, 3, 99, 12345, most / 3, most - 1, most} {
		for part := 0; part <= whole; part += 31 {
			share, ok := rate.Of(asset, part)
			if !ok {
				t.Fatal(asset, part)
			}
			mustOf(t, asset, part, -share)
		}
	}
}

// TestChange is of P18.1, Change: more of an allowance (further below 0) costs, less of it saves.
func TestChange(t *testing.T) {
	for _, x := range []struct{ was, now, want int }{
		{0, -40, 40}, {-40, -10, -30}, {-10, -40, 30}, {-40, 0, -40}, {-5, 0, -5}, {-40, -40, 0}, {0, 0, 0},
		{0, -most, most}, {-most, 0, -most}, {-most, -most, 0}, {-most, -most + 1, -1}, {-most + 1, -most, 1},
		// what no allowance is, is a number, too
		{40, 0, 40}, {0, 40, -40}, {-10, 40, -50}, {40, -10, 50}, {7, 3, 4},
		{most, -most, 2 * most}, {-most, most, -2 * most}, {most + 1, 0, most + 1}, {0, -most - 1, most + 1},
		{math.MaxInt, 0, math.MaxInt}, {math.MinInt, 0, math.MinInt}, {0, math.MaxInt, -math.MaxInt},
		{math.MaxInt, math.MaxInt, 0}, {math.MinInt, math.MinInt, 0}, {-1, math.MinInt, math.MaxInt}, {-1, math.MaxInt, math.MinInt},
	} {
		if got := allow.Change(x.was, x.now); got != x.want {
			t.Errorf("Change(%d, %d) = %d; want %d", x.was, x.now, got, x.want)
		}
	}
}

// TestChangeAlways is of R1: Change ends without a panic also where no int holds what it comes to.
func TestChangeAlways(t *testing.T) {
	for _, was := range wrongAssets {
		for _, now := range wrongAssets {
			_ = allow.Change(was, now)
		}
	}
}

// TestTogether is of P18.1: from close to close, of an asset that changes and a part that is judged anew, the costs sum to the balance.
func TestTogether(t *testing.T) {
	r := rand.New(rand.NewSource(19))
	was, costs := 0, 0
	for range 1000 {
		asset, e := measure.Loss(r.Intn(most+1), r.Intn(whole+1))
		if e != api.OK {
			t.Fatal(e)
		}
		now, e := allow.Of(asset, r.Intn(whole+1))
		if e != api.OK || now > 0 || asset+now < 0 {
			t.Fatalf("an allowance of %d, error %d, on an asset of %d", now, e, asset)
		}
		costs += allow.Change(was, now)
		was = now
		if costs != -now {
			t.Fatalf("the costs sum to %d; the allowance is %d", costs, now)
		}
	}
}
