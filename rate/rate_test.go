package rate_test

import (
	"math"
	"math/big"
	"slices"
	"testing"

	"scutage/api"
	"scutage/rate"
)

const m = api.MaxMoney

// TestMoney is of P1.1, Money.
func TestMoney(t *testing.T) {
	for _, r := range []struct {
		n    int
		want bool
	}{
		{0, true}, {1, true}, {-1, true},
		{m, true}, {-m, true}, {m - 1, true}, {-m + 1, true},
		{m + 1, false}, {-m - 1, false},
		{math.MaxInt, false}, {math.MinInt, false},
	} {
		if got := rate.Money(r.n); got != r.want {
			t.Errorf("Money(%d) = %t", r.n, got)
		}
	}
}

// TestRight is of P1.1, Right.
func TestRight(t *testing.T) {
	for _, r := range []struct {
		rate int
		want bool
	}{
		{0, true}, {1, true}, {300000, true}, {999999, true}, {1000000, true},
		{-1, false}, {1000001, false}, {api.MaxFx, false},
		{math.MaxInt, false}, {math.MinInt, false},
	} {
		if got := rate.Right(r.rate); got != r.want {
			t.Errorf("Right(%d) = %t", r.rate, got)
		}
	}
}

type share struct {
	n, rate, want int
	ok            bool
}

func testShares(t *testing.T, name string, f func(n, rate int) (int, bool), rows []share) {
	t.Helper()
	for _, r := range rows {
		if got, ok := f(r.n, r.rate); got != r.want || ok != r.ok {
			t.Errorf("%s(%d, %d) = %d, %t; want %d, %t", name, r.n, r.rate, got, ok, r.want, r.ok)
		}
	}
}

// TestOf is of P1.1, Of: what is right.
func TestOf(t *testing.T) {
	testShares(t, "Of", rate.Of, []share{
		{5, 300000, 2, true}, {-5, 300000, -2, true}, // the document's
		{1000, 300000, 300, true}, {-1000, 300000, -300, true},
		{0, 0, 0, true}, {0, api.MaxFx, 0, true}, {9, 0, 0, true}, {-9, 0, 0, true},
		{9, 1000000, 9, true}, {-9, 1000000, -9, true},
		{1, 500000, 1, true}, {1, 499999, 0, true}, {1, 500001, 1, true},
		{-1, 500000, -1, true}, {-1, 499999, 0, true}, {-1, 500001, -1, true},
		{2, 250000, 1, true}, {-2, 250000, -1, true},
		{3, 500000, 2, true}, {-3, 500000, -2, true},
		{5, 500000, 3, true}, {-5, 500000, -3, true},
		{1, 1500000, 2, true}, {-1, 1500000, -2, true},
		{4 * m, 1, 400000, true}, {-4 * m, 1, -400000, true},
		{4 * m, api.MaxFx, 40 * m, true}, {-4 * m, api.MaxFx, -40 * m, true},
		{m, api.MaxRate + 1, 100000100000, true}, // not Money, and yet right
	})
}

// TestOfRefuses is of P1.1, Of: each bound, one past it, and far past it.
func TestOfRefuses(t *testing.T) {
	testShares(t, "Of", rate.Of, []share{
		{4*m + 1, 0, 0, false}, {-4*m - 1, 0, 0, false},
		{4*m + 1, 300000, 0, false}, {-4*m - 1, 300000, 0, false},
		{1, -1, 0, false}, {1, api.MaxFx + 1, 0, false},
		{0, -1, 0, false}, {0, api.MaxFx + 1, 0, false},
		{math.MaxInt, 1, 0, false}, {math.MinInt, 1, 0, false},
		{1, math.MaxInt, 0, false}, {1, math.MinInt, 0, false},
		{math.MaxInt, math.MaxInt, 0, false}, {math.MinInt, math.MinInt, 0, false},
	})
}

// TestFloor is of P1.1, Floor: what is right.
func TestFloor(t *testing.T) {
	testShares(t, "Floor", rate.Floor, []share{
		{1000, 300000, 300, true},
		{5, 300000, 1, true}, {5, 500000, 2, true}, {1, 999999, 0, true}, {2, 500000, 1, true},
		{5, 999999, 4, true}, {5, 1000000, 5, true},
		{0, 0, 0, true}, {0, 1000000, 0, true}, {9, 0, 0, true},
		{m, 0, 0, true}, {m, 1, 100000, true}, {m, 999999, 99999900000, true}, {m, 1000000, m, true},
		{m - 1, 1, 99999, true}, {m - 1, 999999, 99999899999, true},
	})
}

// TestFloorRefuses is of P1.1, Floor: each bound, one past it, and far past it.
func TestFloorRefuses(t *testing.T) {
	testShares(t, "Floor", rate.Floor, []share{
		{-1, 300000, 0, false}, {-1, 0, 0, false}, {-m, 300000, 0, false}, {m + 1, 300000, 0, false}, {m + 1, 0, 0, false},
		{1, -1, 0, false}, {1, 1000001, 0, false}, {0, -1, 0, false}, {0, 1000001, 0, false},
		{1, api.MaxFx, 0, false},
		{math.MaxInt, 1, 0, false}, {math.MinInt, 1, 0, false},
		{1, math.MaxInt, 0, false}, {1, math.MinInt, 0, false},
		{math.MaxInt, math.MaxInt, 0, false}, {math.MinInt, math.MinInt, 0, false},
	})
}

// TestSharesAgainstBig holds Of and Floor against numbers without bounds (R6).
func TestSharesAgainstBig(t *testing.T) {
	for _, n := range spread(4 * m) {
		for _, r := range spread(api.MaxFx) {
			if r < 0 {
				continue
			}
			if got, ok := rate.Of(n, r); !ok || got != nearest(n, r) {
				t.Errorf("Of(%d, %d) = %d, %t; want %d", n, r, got, ok, nearest(n, r))
			}
			if !rate.Right(r) || n < 0 || n > m {
				continue
			}
			if got, ok := rate.Floor(n, r); !ok || got != below(n, r) {
				t.Errorf("Floor(%d, %d) = %d, %t; want %d", n, r, got, ok, below(n, r))
			}
		}
	}
}

// spread returns numbers from -most to most: near 0, near both ends, and some between.
func spread(most int) []int {
	var l []int
	for i := range 30 {
		l = append(l, i, -i, most-i, i-most)
	}
	for i, n := 0, 1; i < 120; i++ {
		n = (n*48271 + 11) % (most + 1)
		l = append(l, n, -n)
	}
	return l
}

// nearest returns n times r by a million: the floor of (2nr + 10^6) / 2*10^6 for |n|, with n's sign.
func nearest(n, r int) int {
	x := product(max(n, -n), r)
	x.Add(x.Lsh(x, 1), big.NewInt(1000000))
	x.Div(x, big.NewInt(2000000))
	if n < 0 {
		x.Neg(x)
	}
	return int(x.Int64())
}

func below(n, r int) int {
	x := product(n, r)
	return int(x.Div(x, big.NewInt(1000000)).Int64())
}

func product(n, r int) *big.Int {
	return new(big.Int).Mul(big.NewInt(int64(n)), big.NewInt(int64(r)))
}

type listRow struct {
	l    []int
	want int
	ok   bool
}

func testLists(t *testing.T, name string, f func(l ...int) (int, bool), rows []listRow) {
	t.Helper()
	for _, r := range rows {
		was := slices.Clone(r.l)
		if got, ok := f(r.l...); got != r.want || ok != r.ok {
			t.Errorf("%s(%v) = %d, %t; want %d, %t", name, was, got, ok, r.want, r.ok)
		}
		if !slices.Equal(r.l, was) {
			t.Errorf("%s(%v) has made it %v", name, was, r.l)
		}
	}
}

// TestSum is of P1.1, Sum: what is right.
func TestSum(t *testing.T) {
	testLists(t, "Sum", rate.Sum, []listRow{
		{nil, 0, true}, {[]int{}, 0, true},
		{[]int{5}, 5, true}, {[]int{-5}, -5, true}, {[]int{0, 0}, 0, true},
		{[]int{1, -2, 3, -4}, -2, true}, {[]int{3, -5, -1}, -3, true},
		{[]int{m}, m, true}, {[]int{-m}, -m, true}, {[]int{m - 1, 1}, m, true}, {[]int{1 - m, -1}, -m, true},
		{[]int{m, -m}, 0, true}, {[]int{-m, m}, 0, true},
		{[]int{m, m, m, -m, -m}, m, true}, {[]int{-m, -m, -m, m, m}, -m, true},
		{[]int{m, 1, -1}, m, true}, {[]int{-m, -1, 1}, -m, true},
	})
}

// TestSumRefuses is of P1.1, Sum: sums and arguments one past the bound, and far past it.
func TestSumRefuses(t *testing.T) {
	testLists(t, "Sum", rate.Sum, []listRow{
		{[]int{m, 1}, 0, false}, {[]int{-m, -1}, 0, false}, {[]int{m, m}, 0, false}, {[]int{-m, -m}, 0, false},
		{[]int{m + 1}, 0, false}, {[]int{-m - 1}, 0, false},
		{[]int{m + 1, -5}, 0, false}, {[]int{5, -m - 1}, 0, false}, {[]int{-1, m + 1}, 0, false},
		{[]int{math.MaxInt, math.MinInt}, 0, false}, {[]int{math.MaxInt, -math.MaxInt}, 0, false},
		{[]int{math.MaxInt, math.MaxInt, 2}, 0, false}, {[]int{math.MinInt, math.MinInt}, 0, false},
	})
}

// TestSumOfMany is of P1.1, Sum, and R6: a sum that has gone once round an int isn't Money.
func TestSumOfMany(t *testing.T) {
	if testing.Short() {
		t.Skip("takes 1.5 GB")
	}
	const round = 184467441 // the least number of MaxMoney whose sum is above 2^64
	l := make([]int, round)
	fill(l, m)
	if n, ok := rate.Sum(l...); n != 0 || ok {
		t.Error("above", n, ok)
	}
	fill(l[:round/2], -m)
	if n, ok := rate.Sum(l...); n != m || !ok {
		t.Error("there and back", n, ok)
	}
	fill(l, -m)
	if n, ok := rate.Sum(l...); n != 0 || ok {
		t.Error("below", n, ok)
	}
}

func fill(l []int, n int) {
	for i := range l {
		l[i] = n
	}
}

// TestLeast is of P1.1, Least.
func TestLeast(t *testing.T) {
	testLists(t, "Least", rate.Least, []listRow{
		{nil, 0, false}, {[]int{}, 0, false},
		{[]int{5}, 5, true}, {[]int{-5}, -5, true}, {[]int{0}, 0, true},
		{[]int{1, 2, 3}, 1, true}, {[]int{3, 2, 1}, 1, true}, {[]int{2, 1, 3}, 1, true},
		{[]int{4, 4}, 4, true}, {[]int{0, -1, 1}, -1, true},
		{[]int{m + 1, m + 2}, m + 1, true},
		{[]int{math.MaxInt}, math.MaxInt, true}, {[]int{math.MaxInt, math.MinInt}, math.MinInt, true},
	})
}

// TestListsEnd is of R4: what lies behind a list's end is neither read nor written.
func TestListsEnd(t *testing.T) {
	l := []int{7, 3, math.MinInt, 1}
	if n, ok := rate.Sum(l[:2]...); n != 10 || !ok {
		t.Error("Sum", n, ok)
	}
	if n, ok := rate.Least(l[:2]...); n != 3 || !ok {
		t.Error("Least", n, ok)
	}
	if n, ok := rate.Least(l[:0]...); n != 0 || ok {
		t.Error("Least of none", n, ok)
	}
	if !slices.Equal(l, []int{7, 3, math.MinInt, 1}) {
		t.Error("written", l)
	}
}
