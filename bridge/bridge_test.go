package bridge_test

import (
	"math"
	"math/big"
	"math/rand"
	"slices"
	"testing"

	"scutage/api"
	"scutage/bridge"
)

const most = api.MaxMoney

// wrongMoney is one past each bound, far past it, and what goes round when it is negated or summed.
var wrongMoney = []int{most + 1, -most - 1, 2 * most, -2 * most, 1 << 40, -(1 << 40), 1 << 62, -(1 << 62), math.MaxInt, math.MaxInt - 1, math.MinInt, math.MinInt + 1}

// mustBridge holds the income, and the lines that lead to it.
func mustBridge(t *testing.T, book, perm, moved, income int) {
	t.Helper()
	if got, ok := bridge.Income(book, perm, moved); got != income || !ok {
		t.Errorf("Income(%d, %d, %d) = %d, %t; want %d, true", book, perm, moved, got, ok, income)
	}
	lines := []api.Item{{Kind: 1, Amount: book}, {Kind: 2, Amount: perm}, {Kind: 3, Amount: -moved}, {Kind: 4, Amount: income}}
	if got := bridge.Lines(book, perm, moved); !slices.Equal(got, lines) {
		t.Errorf("Lines(%d, %d, %d) = %v; want %v", book, perm, moved, got, lines)
	}
}

// mustRefuse holds that there is no income, and no line.
func mustRefuse(t *testing.T, book, perm, moved int) {
	t.Helper()
	if got, ok := bridge.Income(book, perm, moved); got != 0 || ok {
		t.Errorf("Income(%d, %d, %d) = %d, %t; want 0, false", book, perm, moved, got, ok)
	}
	if got := bridge.Lines(book, perm, moved); len(got) != 0 {
		t.Errorf("Lines(%d, %d, %d) = %v; want none", book, perm, moved, got)
	}
}

// TestIncome is of P12.1: ordinary incomes, and each argument alone on both sides of 0.
func TestIncome(t *testing.T) {
	mustBridge(t, 10, 2, 5, 7) // the document's
	mustBridge(t, -10, -2, -5, -7)
	mustBridge(t, 1000, 30, 400, 630)
	mustBridge(t, 1000, -30, -400, 1370)
	mustBridge(t, 100, 20, 300, -180)
	mustBridge(t, -100, 0, -300, 200)
	mustBridge(t, 0, 0, 0, 0)
	mustBridge(t, 5, 0, 0, 5)
	mustBridge(t, -5, 0, 0, -5)
	mustBridge(t, 0, 5, 0, 5)
	mustBridge(t, 0, -5, 0, -5)
	mustBridge(t, 0, 0, 5, -5)
	mustBridge(t, 0, 0, -5, 5)
	mustBridge(t, 7, 3, 10, 0)
	mustBridge(t, 7, -7, 0, 0)
	mustBridge(t, -7, 0, -7, 0)
}

// TestIncomeBounds is of P12.1: the greatest and the least of each argument, and of the result.
func TestIncomeBounds(t *testing.T) {
	for _, n := range []int{most, -most, most - 1, 1 - most} {
		mustBridge(t, n, 0, 0, n)
		mustBridge(t, 0, n, 0, n)
		mustBridge(t, 0, 0, n, -n)
		mustBridge(t, n, -n, 0, 0)
		mustBridge(t, n, 0, n, 0)
		mustBridge(t, 0, n, n, 0)
	}
	mustBridge(t, most-1, 1, 0, most)
	mustBridge(t, most-1, 0, -1, most)
	mustBridge(t, 0, most-1, -1, most)
	mustBridge(t, 1-most, -1, 0, -most)
	mustBridge(t, 1-most, 0, 1, -most)
	mustBridge(t, 0, 1-most, 1, -most)
}

// TestIncomeBeyond is of P12.1: the arguments are Money, and the result is one past its bound, or far past it.
func TestIncomeBeyond(t *testing.T) {
	for _, n := range []int{1, 2, most - 1, most} {
		mustRefuse(t, most, n, 0)
		mustRefuse(t, n, most, 0)
		mustRefuse(t, most, 0, -n)
		mustRefuse(t, 0, most, -n)
		mustRefuse(t, n, 0, -most)
		mustRefuse(t, 0, n, -most)
		mustRefuse(t, -most, -n, 0)
		mustRefuse(t, -n, -most, 0)
		mustRefuse(t, -most, 0, n)
		mustRefuse(t, 0, -most, n)
		mustRefuse(t, -n, 0, most)
		mustRefuse(t, 0, -n, most)
	}
	mustRefuse(t, most, most, -most)
	mustRefuse(t, -most, -most, most)
	mustRefuse(t, most, most, most-1)
	mustRefuse(t, -most, -most, 1-most)
}

// TestIncomePartial is of P12.1: what two arguments come to may be beyond Money, if all three do not.
func TestIncomePartial(t *testing.T) {
	mustBridge(t, most, most, most, most)
	mustBridge(t, -most, -most, -most, -most)
	mustBridge(t, most, 1, 1, most)
	mustBridge(t, -most, -1, -1, -most)
	mustBridge(t, most, -1, -1, most)
	mustBridge(t, -most, 1, 1, -most)
	mustBridge(t, 1, most, 1, most)
	mustBridge(t, -1, most, -1, most)
	mustBridge(t, 1, -most, 1, -most)
	mustBridge(t, -1, -most, -1, -most)
	mustBridge(t, 1, 1, -most+2, most)
	mustBridge(t, -1, 0, -most, most-1)
	mustBridge(t, 0, -1, -most, most-1)
	mustBridge(t, 0, 1, most, 1-most)
	mustBridge(t, -most, most, most, -most)
	mustBridge(t, most, -most, -most, most)
}

// TestWrongMoney is of P12.1: what is not Money is refused, whatever the others are, and also where the result would be Money.
func TestWrongMoney(t *testing.T) {
	for _, n := range wrongMoney {
		for _, other := range []int{0, 1, -1, most, -most} {
			for _, another := range []int{0, 1, -1, most, -most} {
				mustRefuse(t, n, other, another)
				mustRefuse(t, other, n, another)
				mustRefuse(t, other, another, n)
			}
		}
		for _, other := range append([]int{-n, n, -n - 1, n - 1}, wrongMoney...) {
			mustRefuse(t, n, other, 0)
			mustRefuse(t, n, 0, other)
			mustRefuse(t, 0, n, other)
			for _, another := range wrongMoney {
				mustRefuse(t, n, other, another)
			}
		}
	}
}

// TestLinesAreNew is of R4: what is written over one answer, or behind it, is in no other.
func TestLinesAreNew(t *testing.T) {
	one, two := bridge.Lines(10, 2, 5), bridge.Lines(10, 2, 5)
	clear(one)
	_ = append(one, api.Item{Kind: 9, Amount: 9})
	_ = append(one[:0], api.Item{Kind: 8, Amount: 8})
	if want := []api.Item{{Kind: 1, Amount: 10}, {Kind: 2, Amount: 2}, {Kind: 3, Amount: -5}, {Kind: 4, Amount: 7}}; !slices.Equal(two, want) {
		t.Errorf("what was written over one answer is in %v", two)
	}
	mustBridge(t, 10, 2, 5, 7)
}

// TestAgainstBig is of P12.1 and R6: random arguments near 0, near the bounds and past them, against numbers without bounds.
func TestAgainstBig(t *testing.T) {
	r := rand.New(rand.NewSource(12))
	some := func() int {
		near := []int{0, 0, most, -most, most / 2, -most / 2, most / 3, -most / 3}
		n := near[r.Intn(len(near))] + r.Intn(7) - 3
		if r.Intn(4) == 0 {
			n = r.Intn(2*most+3) - most - 1
		}
		if r.Intn(20) == 0 {
			n = wrongMoney[r.Intn(len(wrongMoney))]
		}
		return n
	}
	for range 100000 {
		book, perm, moved := some(), some(), some()
		if income, ok := words(book, perm, moved); ok {
			mustBridge(t, book, perm, moved, income)
		} else {
			mustRefuse(t, book, perm, moved)
		}
		if t.Failed() {
			t.FailNow()
		}
	}
}

// words is the document's words for Income, in numbers without bounds.
func words(book, perm, moved int) (int, bool) {
	bound := big.NewInt(most)
	income := new(big.Int).Add(big.NewInt(int64(book)), big.NewInt(int64(perm)))
	income.Sub(income, big.NewInt(int64(moved)))
	for _, n := range []*big.Int{big.NewInt(int64(book)), big.NewInt(int64(perm)), big.NewInt(int64(moved)), income} {
		if n.CmpAbs(bound) > 0 {
			return 0, false
		}
	}
	return int(income.Int64()), true
}
