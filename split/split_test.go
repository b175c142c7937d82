package split_test

import (
	"math"
	"math/big"
	"slices"
	"testing"

	"scutage/api"
	"scutage/split"
)

const m = api.MaxMoney

type row struct {
	n       int
	weights []int
	want    []int
}

func testRows(t *testing.T, rows []row) {
	t.Helper()
	for _, r := range rows {
		was := slices.Clone(r.weights)
		got, ok := split.Split(r.n, r.weights...)
		if ok != (r.want != nil) || !slices.Equal(got, r.want) {
			t.Errorf("Split(%d, %v) = %v, %t; want %v", r.n, was, got, ok, r.want)
		}
		if !slices.Equal(r.weights, was) {
			t.Errorf("Split(%d, %v) has made them %v", r.n, was, r.weights)
		}
	}
}

// TestSplit is of P2.1: what comes out even, and where units are missing.
func TestSplit(t *testing.T) {
	testRows(t, []row{
		{10, []int{1, 1, 1}, []int{4, 3, 3}}, // the document's
		{11, []int{1, 1, 1}, []int{4, 4, 3}},
		{12, []int{1, 1, 1}, []int{4, 4, 4}},
		{10, []int{2, 3}, []int{4, 6}},
		{10, []int{7}, []int{10}},
		{0, []int{1, 2}, []int{0, 0}},
		{10, []int{1, 2, 4}, []int{1, 3, 6}}, // remainders 3, 6, 5: one unit to the second
		{10, []int{4, 2, 1}, []int{6, 3, 1}}, // remainders 5, 6, 3
		{12, []int{1, 2, 4}, []int{2, 3, 7}}, // remainders 5, 3, 6: two units, to the third and the first
		{1, []int{1, 2, 2}, []int{0, 1, 0}},  // equal ones: to the first of them
		{3, []int{1, 1, 1, 1}, []int{1, 1, 1, 0}},
		{7, []int{1, 3, 3, 1}, []int{1, 3, 2, 1}}, // remainders 7, 5, 5, 7
		{2, []int{5, 6, 6, 5}, []int{0, 1, 1, 0}},
	})
}

// TestSplitNegative is of P2.1: below 0, the parts are those of -n, negated.
func TestSplitNegative(t *testing.T) {
	testRows(t, []row{
		{-10, []int{1, 1, 1}, []int{-4, -3, -3}},
		{-11, []int{1, 1, 1}, []int{-4, -4, -3}},
		{-1, []int{1, 2, 2}, []int{0, -1, 0}},
		{-12, []int{1, 2, 4}, []int{-2, -3, -7}},
		{-m, []int{1}, []int{-m}},
		{-m, []int{1, 1, 1}, []int{-33333333334, -33333333333, -33333333333}},
	})
}

// TestSplitWeightsOfNone is of P2.1: some weights are 0, and have no part.
func TestSplitWeightsOfNone(t *testing.T) {
	testRows(t, []row{
		{7, []int{0, 1, 0}, []int{0, 7, 0}},
		{1, []int{0, 1, 1}, []int{0, 1, 0}},
		{11, []int{0, 3, 0, 3, 3}, []int{0, 4, 0, 4, 3}},
		{-11, []int{0, 3, 0, 3, 3}, []int{0, -4, 0, -4, -3}},
		{0, []int{0, 1}, []int{0, 0}},
	})
}

// TestSplitBounds is of P2.1: the greatest amounts, weights and numbers of weights.
func TestSplitBounds(t *testing.T) {
	ones, most := slices.Repeat([]int{1}, 16), slices.Repeat([]int{1000000}, 16)
	testRows(t, []row{
		{m, []int{1}, []int{m}},
		{m, []int{1000000}, []int{m}},
		{m, []int{1000000, 0}, []int{m, 0}},
		{m, []int{999999, 1000000}, []int{49999975000, 50000025000}},
		{m, ones, slices.Repeat([]int{m / 16}, 16)},
		{m, most, slices.Repeat([]int{m / 16}, 16)},
		{m - 1, most, append(slices.Repeat([]int{m / 16}, 15), m/16-1)},
		{15, ones, append(slices.Repeat([]int{1}, 15), 0)},
		{1, []int{1000000, 1}, []int{1, 0}},
		{1, []int{1, 1000000}, []int{0, 1}},
	})
}

// TestSplitRefuses is of P2.1: each bound, one past it, and far past it.
func TestSplitRefuses(t *testing.T) {
	testRows(t, []row{
		{1, nil, nil}, {1, []int{}, nil}, {0, nil, nil},
		{1, []int{0}, nil}, {1, []int{0, 0, 0}, nil}, {0, []int{0, 0}, nil},
		{1, []int{-1}, nil}, {1, []int{-1, 2}, nil}, {1, []int{2, -1}, nil}, {0, []int{1, -1}, nil},
		{1, []int{1000001}, nil}, {1, []int{1, 1000001}, nil}, {1, []int{1000001, 1}, nil},
		{1, []int{math.MaxInt}, nil}, {1, []int{math.MinInt}, nil}, {1, []int{math.MaxInt, math.MaxInt, 3}, nil},
		{1, slices.Repeat([]int{1}, 17), nil}, {1, make([]int, 17), nil}, {1, append(make([]int, 16), 1), nil},
		{m + 1, []int{1}, nil}, {-m - 1, []int{1}, nil},
		{math.MaxInt, []int{1}, nil}, {math.MinInt, []int{1}, nil},
	})
}

// TestSplitAgainstBig holds Split against numbers without bounds (R6): the
// parts come to n, and no part without a unit has a claim before one with it.
func TestSplitAgainstBig(t *testing.T) {
	seed := 1
	next := func(most int) int {
		seed = (seed*48271 + 11) % 2147483647
		return seed % (most + 1)
	}
	for range 2000 {
		weights := make([]int, 1+next(15))
		most := []int{1, 5, 1000, 1000000}[next(3)]
		for i := range weights {
			weights[i] = next(most)
		}
		weights[0]++
		weights[0] = min(weights[0], 1000000)
		n := []int{next(20), next(100000), m - next(1000), next(1000000) * 99991}[next(3)]
		checkParts(t, n, weights)
	}
}

func checkParts(t *testing.T, n int, weights []int) {
	t.Helper()
	want := partsOf(n, weights)
	if got, ok := split.Split(n, weights...); !ok || !slices.Equal(got, want) {
		t.Errorf("Split(%d, %v) = %v, %t; want %v", n, weights, got, ok, want)
	}
	for i := range want {
		want[i] = -want[i]
	}
	if got, ok := split.Split(-n, weights...); !ok || !slices.Equal(got, want) {
		t.Errorf("Split(%d, %v) = %v, %t; want %v", -n, weights, got, ok, want)
	}
}

// partsOf sorts the parts by their remainders, which Split does not.
func partsOf(n int, weights []int) []int {
	total := big.NewInt(0)
	for _, w := range weights {
		total.Add(total, big.NewInt(int64(w)))
	}
	parts := make([]int, len(weights))
	remainders := make([]*big.Int, len(weights))
	order := make([]int, len(weights))
	missing := n
	for i, w := range weights {
		x := new(big.Int).Mul(big.NewInt(int64(n)), big.NewInt(int64(w)))
		q, r := x.DivMod(x, total, new(big.Int))
		parts[i], remainders[i], order[i] = int(q.Int64()), r, i
		missing -= parts[i]
	}
	slices.SortStableFunc(order, func(a, b int) int { return remainders[b].Cmp(remainders[a]) })
	for _, i := range order[:missing] {
		parts[i]++
	}
	return parts
}

// TestSplitMemory is of R4: parts are new memory, and what lies behind the end
// of the weights is neither read nor written.
func TestSplitMemory(t *testing.T) {
	l := []int{1, 1, -1, 5}
	got, ok := split.Split(10, l[:2]...)
	if !ok || !slices.Equal(got, []int{5, 5}) {
		t.Error("Split", got, ok)
	}
	got[0] = 77
	_ = append(got, 78)
	if !slices.Equal(l, []int{1, 1, -1, 5}) {
		t.Error("written", l)
	}
	if again, _ := split.Split(10, l[:2]...); !slices.Equal(again, []int{5, 5}) {
		t.Error("again", again)
	}
	if got, ok := split.Split(10, l[:0]...); got != nil || ok {
		t.Error("Split by none", got, ok)
	}
}
