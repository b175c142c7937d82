package sides_test

import (
	"math"
	"slices"
	"testing"

	"scutage/api"
	"scutage/sides"
)

// most is the greatest debit or credit that an amount has.
const most = 1 << 52

// parts are debits and credits: small ones, those of Money, and the greatest ones.
var parts = []int{
	0, 1, 2, 3, 7, 1000, 1<<31 - 1, 1 << 31, 1 << 32, api.MaxMoney - 1, api.MaxMoney, api.MaxMoney + 1,
	4000 * api.MaxMoney, most/2 - 1, most / 2, most/2 + 1, most - 2, most - 1, most,
}

func amount(debit, credit int) complex128 {
	return complex(float64(debit), float64(credit))
}

// eachAmount calls f with every pair of parts.
func eachAmount(f func(debit, credit int)) {
	for _, debit := range parts {
		for _, credit := range parts {
			f(debit, credit)
		}
	}
}

// TestOf is of P4.1, Of: debits, credits, and nothing.
func TestOf(t *testing.T) {
	for n, want := range map[int]complex128{
		-3: 3i, // the document's
		3:  3, 0: 0, 1: 1, -1: 1i, 2: 2, -2: 2i,
		123456789:           123456789,
		-123456789:          123456789i,
		1 << 32:             1 << 32,
		-1 << 32:            complex(0, 1<<32),
		api.MaxMoney - 1:    99999999999,
		api.MaxMoney:        100000000000,
		-api.MaxMoney + 1:   99999999999i,
		-api.MaxMoney:       100000000000i,
		api.MaxMoney/2 + 1:  50000000001,
		-api.MaxMoney/2 - 1: 50000000001i,
	} {
		if got := sides.Of(n); got != want {
			t.Errorf("Of(%d) = %v; want %v", n, got, want)
		}
	}
	for n := range 5000 {
		if got := sides.Of(n); got != amount(n, 0) {
			t.Errorf("Of(%d) = %v", n, got)
		}
		if got := sides.Of(-n); got != amount(0, n) {
			t.Errorf("Of(%d) = %v", -n, got)
		}
	}
}

// TestOfNoMoney is of P4.1, Of: what is not Money is 0.
func TestOfNoMoney(t *testing.T) {
	for _, n := range []int{
		api.MaxMoney + 1, -api.MaxMoney - 1, api.MaxMoney + 2, -api.MaxMoney - 2, 2 * api.MaxMoney, -2 * api.MaxMoney,
		1 << 52, -1 << 52, 1 << 53, 1 << 62, -1 << 62, math.MaxInt, math.MaxInt - 1, math.MinInt, math.MinInt + 1,
	} {
		if got := sides.Of(n); got != 0 {
			t.Errorf("Of(%d) = %v", n, got)
		}
	}
}

// TestSum is of P4.1, Sum: debits and credits are summed each for themselves, of none, one and more amounts.
func TestSum(t *testing.T) {
	for _, c := range []struct {
		l    []complex128
		want complex128
	}{
		{nil, 0},
		{[]complex128{}, 0},
		{[]complex128{0}, 0},
		{[]complex128{5}, 5},
		{[]complex128{3i}, 3i},
		{[]complex128{5, 3i}, 5 + 3i},
		{[]complex128{5, 3i, 4}, 9 + 3i},
		{[]complex128{5, 5i}, 5 + 5i}, // a credit takes nothing from a debit
		{[]complex128{2 + 3i, 10 + 20i, 100 + 200i}, 112 + 223i},
		{[]complex128{api.MaxMoney, api.MaxMoney, complex(0, api.MaxMoney)}, complex(2*api.MaxMoney, api.MaxMoney)},
		{[]complex128{most - 1, 1}, most},
		{[]complex128{1, most - 1, complex(0, most-1), 1i}, complex(most, most)},
		{[]complex128{complex(most, 0), complex(0, most)}, complex(most, most)},
		{[]complex128{complex(most, most), 0}, complex(most, most)},
	} {
		if got := sides.Sum(c.l...); got != c.want {
			t.Errorf("Sum(%v) = %v; want %v", c.l, got, c.want)
		}
	}
}

// TestSumMany is of P4.1, Sum: 4000 amounts, summed to the unit.
func TestSumMany(t *testing.T) {
	var all, odd []complex128
	debit, credit := 0, 0
	for i := range 4000 {
		all = append(all, amount(api.MaxMoney, api.MaxMoney))
		n := api.MaxMoney - i*i
		if i%3 == 0 {
			n = -n
			credit -= n
		} else {
			debit += n
		}
		odd = append(odd, sides.Of(n))
	}
	if got := sides.Sum(all...); got != amount(4000*api.MaxMoney, 4000*api.MaxMoney) {
		t.Error("all:", got)
	}
	if got := sides.Sum(odd...); got != amount(debit, credit) {
		t.Errorf("Sum = %v; want %d, %d", got, debit, credit)
	}
	if got := sides.Net(sides.Sum(odd...)); got != debit-credit {
		t.Errorf("Net = %d; want %d", got, debit-credit)
	}
	great := []complex128{amount(most-3999, 1)} // what each of many small ones adds must not be lost beside a great one
	for range 3999 {
		great = append(great, 1+1i)
	}
	if got := sides.Sum(great...); got != amount(most, 4000) {
		t.Error("great:", got)
	}
}

// TestSumMemory is of P4.1, Sum, and R4: the list stays as it is, and what lies behind it is not read.
func TestSumMemory(t *testing.T) {
	l := []complex128{1, 2i, 3, complex(math.NaN(), 5), 7}
	before := slices.Clone(l[:3])
	if got := sides.Sum(l[:3]...); got != 4+2i {
		t.Error(got)
	}
	if !slices.Equal(l[:3], before) || !math.IsNaN(real(l[3])) || l[4] != 7 {
		t.Error(l)
	}
	again := sides.Sum(l[:3]...) // nothing of the call before is left
	if again != 4+2i || sides.Sum() != 0 {
		t.Error(again)
	}
}

// TestNet is of P4.1, Net: the document's kinds of amounts, and all pairs of parts.
func TestNet(t *testing.T) {
	for z, want := range map[complex128]int{
		0: 0, 7: 7, 7i: -7, 9 + 3i: 6, 3 + 9i: -6, 4 + 4i: 0,
		most: most, complex(0, most): -most, complex(most, most): 0, complex(most, 1): most - 1, complex(1, most): 1 - most,
	} {
		if got := sides.Net(z); got != want {
			t.Errorf("Net(%v) = %d; want %d", z, got, want)
		}
	}
	eachAmount(func(debit, credit int) {
		if got := sides.Net(amount(debit, credit)); got != debit-credit {
			t.Errorf("Net(%d, %d) = %d", debit, credit, got)
		}
	})
}

// TestBoth is of P4.1, Both.
func TestBoth(t *testing.T) {
	for z, want := range map[complex128][2]int{0: {0, 0}, 7: {7, 0}, 7i: {0, 7}, 9 + 3i: {9, 3}, 3 + 9i: {3, 9}, 4 + 4i: {4, 4}} {
		if debit, credit := sides.Both(z); debit != want[0] || credit != want[1] {
			t.Errorf("Both(%v) = %d, %d; want %v", z, debit, credit, want)
		}
	}
	eachAmount(func(debit, credit int) {
		if d, c := sides.Both(amount(debit, credit)); d != debit || c != credit {
			t.Errorf("Both(%d, %d) = %d, %d", debit, credit, d, c)
		}
	})
}

// TestEven is of P4.1, Even: also where the parts differ by one unit only.
func TestEven(t *testing.T) {
	for z, want := range map[complex128]bool{
		0: true, 1: false, 1i: false, 1 + 1i: true, 4 + 4i: true, 4 + 5i: false, 5 + 4i: false,
		complex(most, most): true, complex(most, most-1): false, complex(most-1, most): false, complex(0, most): false, most: false,
	} {
		if got := sides.Even(z); got != want {
			t.Errorf("Even(%v) = %t", z, got)
		}
	}
	eachAmount(func(debit, credit int) {
		if got := sides.Even(amount(debit, credit)); got != (debit == credit) {
			t.Errorf("Even(%d, %d) = %t", debit, credit, got)
		}
	})
}

// TestTurn is of P4.1, Turn: turned twice, an amount is itself again.
func TestTurn(t *testing.T) {
	for z, want := range map[complex128]complex128{0: 0, 7: 7i, 7i: 7, 9 + 3i: 3 + 9i, 4 + 4i: 4 + 4i, most: complex(0, most), complex(0, most): most} {
		if got := sides.Turn(z); got != want {
			t.Errorf("Turn(%v) = %v; want %v", z, got, want)
		}
	}
	eachAmount(func(debit, credit int) {
		z := amount(debit, credit)
		w := sides.Turn(z)
		if w != amount(credit, debit) || sides.Turn(w) != z || sides.Net(w) != credit-debit {
			t.Errorf("Turn(%v) = %v", z, w)
		}
	})
}

// TestTogether is of P4.1: what an amount of Money is as a debit or a credit, it is again by Net.
func TestTogether(t *testing.T) {
	for _, n := range []int{0, 1, -1, 3, -3, 99, -99, 1 << 31, -1 << 31, api.MaxMoney - 1, 1 - api.MaxMoney, api.MaxMoney, -api.MaxMoney} {
		z := sides.Of(n)
		if sides.Net(z) != n || sides.Turn(z) != sides.Of(-n) || sides.Even(z) != (n == 0) {
			t.Errorf("%d is %v", n, z)
		}
		if both := sides.Sum(z, sides.Of(-n)); !sides.Even(both) || sides.Net(both) != 0 {
			t.Errorf("%d and its opposite are %v", n, both)
		}
	}
}

// TestZeroSigns is of P4.1 and R6: a part that is -0 is 0.
func TestZeroSigns(t *testing.T) {
	minus := math.Copysign(0, -1)
	for _, z := range []complex128{complex(minus, minus), complex(0, minus), complex(minus, 0)} {
		debit, credit := sides.Both(z)
		if debit != 0 || credit != 0 || sides.Net(z) != 0 || !sides.Even(z) || sides.Turn(z) != 0 || sides.Sum(z, z) != 0 || sides.Sum(z, 2i) != 2i {
			t.Error(z)
		}
	}
}

// TestEnds is of R1: no number, of what form ever, ends in a panic.
func TestEnds(t *testing.T) {
	odd := []float64{
		math.NaN(), math.Inf(1), math.Inf(-1), math.MaxFloat64, -math.MaxFloat64, math.SmallestNonzeroFloat64,
		-1, 0.5, -0.5, 1 << 53, 1 << 63, -1 << 63, 1 << 64, 1e300,
	}
	for _, a := range odd {
		for _, b := range odd {
			z := complex(a, b)
			sides.Net(z)
			sides.Both(z)
			sides.Even(z)
			sides.Turn(z)
			sides.Sum(z, z, 1)
		}
	}
	sides.Sum(make([]complex128, 100000)...)
}
