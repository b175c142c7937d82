package journal_test

import (
	"math"
	"math/big"
	"slices"
	"testing"

	"scutage/api"
	"scutage/journal"
	"scutage/sides"
)

const m = api.MaxMoney

// noMoney are amounts past the bounds of Money, near and far.
var noMoney = []int{m + 1, -m - 1, 2 * m, -2 * m, 1 << 52, 1 << 53, 1 << 62, -1 << 62, math.MaxInt, math.MinInt + 1, math.MinInt}

// noAccounts are numbers that denote no account.
var noAccounts = []int{
	0, -1, -2, -7, 8, 9, 100, 1<<8 + 1, 1<<16 + 2, 1<<32 + 1, 1<<32 + 7,
	math.MaxInt, math.MinInt, math.MinInt + 1, math.MinInt + 7,
}

// lines are of accounts and amounts, by turns.
func lines(n ...int) []api.Line {
	var l []api.Line
	for i := 0; i < len(n); i += 2 {
		l = append(l, api.Line{Account: n[i], Amount: n[i+1]})
	}
	return l
}

func repeat(line api.Line, n int) []api.Line {
	return slices.Repeat([]api.Line{line}, n)
}

// TestCheck is of P6.1, Check: journals of no account, two, and all.
func TestCheck(t *testing.T) {
	for i, l := range [][]api.Line{
		nil,
		{},
		lines(1, 5, 2, -5),
		lines(1, -5, 2, 5),
		lines(1, 1, 7, -1),
		lines(6, -9, 7, 9),
		lines(3, 7, 4, -10, 5, 3),
		lines(1, 1, 2, 2, 3, 3, 4, 4, 5, 5, 6, 6, 7, -21),
		lines(1, -21, 2, 1, 3, 2, 4, 3, 5, 4, 6, 5, 7, 6),
		lines(1, m, 2, -m),
		lines(1, -m, 7, m),
		lines(1, m, 2, m, 3, m, 5, -m, 6, -m, 7, -m), // partial sums above Money
		lines(1, -m, 2, -m, 3, -m, 4, m, 5, m, 6, m-1, 7, 1),
	} {
		if got := journal.Check(l); got != api.OK {
			t.Errorf("%d: Check(%v) = %d", i, l, got)
		}
	}
}

// TestCheckRefuses is of P6.1, Check: each fault alone, where the rest is right.
func TestCheckRefuses(t *testing.T) {
	for name, all := range map[string][][]api.Line{
		"account":   {lines(0, 5, 2, -5), lines(-1, 5, 2, -5), lines(1, 5, 8, -5), lines(1, 5, 2, -7, 9, 2), lines(8, 5, 9, -5), lines(0, 5, 8, -5)},
		"zero":      {lines(1, 0), lines(1, 0, 2, 0), lines(1, 5, 2, 0, 3, -5), lines(1, 0, 2, 5, 3, -5), lines(1, 5, 2, -5, 3, 0)},
		"money":     {lines(1, m+1, 2, -m-1), lines(1, -m-1, 2, m+1), lines(1, m+1, 2, -m, 3, -1), lines(1, 1, 2, m, 3, -m-1), lines(1, 1<<60, 2, -1<<60)},
		"round":     {lines(1, math.MinInt, 2, math.MinInt), lines(1, math.MaxInt, 2, -math.MaxInt), lines(1, math.MaxInt, 2, math.MaxInt, 3, 2), lines(1, math.MinInt, 2, math.MaxInt, 3, 1)},
		"ascending": {lines(2, 5, 1, -5), lines(1, 5, 1, -5), lines(1, 5, 3, 2, 2, -7), lines(1, 5, 2, -3, 2, -2), lines(2, 5, 3, 1, 1, -6), lines(7, 1, 6, -1), lines(1, 5, 2, -5, 1, 5, 2, -5)},
		"sum":       {lines(1, 5), lines(1, -5), lines(7, m), lines(1, 5, 2, -4), lines(1, 5, 2, -6), lines(1, 5, 2, 5), lines(1, -5, 2, -5), lines(1, m, 2, -m+1), lines(1, m-1, 2, -m), lines(1, m, 2, m, 3, m, 4, -m, 5, -m, 6, -m, 7, 1)},
		"many":      {make([]api.Line, 21), make([]api.Line, 20), repeat(api.Line{Account: 1, Amount: 5}, 21), make([]api.Line, 10000)},
	} {
		for _, l := range all {
			if got := journal.Check(l); got != api.ErrForm {
				t.Errorf("%s: Check(%v) = %d", name, l, got)
			}
		}
	}
	for _, account := range noAccounts {
		for _, l := range [][]api.Line{lines(account, 5, 4, -5), lines(4, 5, account, -5), lines(account, 5)} {
			if got := journal.Check(l); got != api.ErrForm {
				t.Errorf("Check(%v) = %d", l, got)
			}
		}
	}
	for _, n := range noMoney {
		if got := journal.Check(lines(1, n, 2, -n)); got != api.ErrForm {
			t.Errorf("Check with %d = %d", n, got)
		}
	}
}

// TestSides is of P6.1, Sides: debits and credits each for themselves, of whatever accounts.
func TestSides(t *testing.T) {
	for _, c := range []struct {
		l    []api.Line
		want complex128
	}{
		{nil, 0},
		{[]api.Line{}, 0},
		{lines(1, 5), 5},
		{lines(2, -5), 5i},
		{lines(1, 0), 0},
		{lines(1, 5, 2, -5), 5 + 5i},
		{lines(1, 5, 1, -5), 5 + 5i}, // of one account, too
		{lines(1, 5, 2, -5, 1, 2), 7 + 5i},
		{lines(7, 1, 3, 2, 3, -4, 1, -8), 3 + 12i},
		{lines(0, 5, 8, -6, -1, 7, math.MaxInt, -9, math.MinInt, 10), 22 + 15i},
		{lines(1, m, 2, -m, 3, m, 4, -m+1), complex(2*m, 2*m-1)},
	} {
		if got := journal.Sides(c.l); got != c.want {
			t.Errorf("Sides(%v) = %v; want %v", c.l, got, c.want)
		}
	}
}

// TestSidesNoMoney is of P6.1, Sides: what is not Money is ignored, and nothing else.
func TestSidesNoMoney(t *testing.T) {
	for _, n := range noMoney {
		for _, l := range [][]api.Line{lines(1, n, 1, 7, 2, -3), lines(1, 7, 9, n, 2, -3), lines(1, 7, 2, -3, 2, n), lines(1, n, 2, 7, 3, n, 4, -3, 5, n)} {
			if got := journal.Sides(l); got != 7+3i {
				t.Errorf("Sides(%v) = %v", l, got)
			}
		}
		if got := journal.Sides(lines(1, n)); got != 0 {
			t.Errorf("Sides of %d = %v", n, got)
		}
	}
}

// TestSidesMany is of P6.1, Sides: unlike the other functions it sums more than 40 lines, to the unit.
func TestSidesMany(t *testing.T) {
	for _, n := range []int{10, 20, 21, 41, 1000, 1999, 2000} { // 2000 debits and as many credits: the most that sides.Sum takes
		var l []api.Line
		for i := range n {
			l = append(l, api.Line{Account: i%9 - 1, Amount: m - i}, api.Line{Account: 2, Amount: i - m + 1}, api.Line{Account: 2, Amount: m + 1})
		}
		debit := n*m - n*(n-1)/2
		if got := journal.Sides(l); got != complex(float64(debit), float64(debit-n)) {
			t.Errorf("%d: Sides = %v; want %d, %d", n, got, debit, debit-n)
		}
	}
}

type mergeRow struct{ l, want []api.Line }

func testMerge(t *testing.T, rows []mergeRow) {
	t.Helper()
	for _, r := range rows {
		was := slices.Clone(r.l)
		if got := journal.Merge(r.l...); !slices.Equal(got, r.want) {
			t.Errorf("Merge(%v) = %v; want %v", was, got, r.want)
		}
		if !slices.Equal(r.l, was) {
			t.Errorf("Merge(%v) has made them %v", was, r.l)
		}
	}
}

// TestMerge is of P6.1, Merge: a line for each account, ascending, where its sum is not 0.
func TestMerge(t *testing.T) {
	testMerge(t, []mergeRow{
		{lines(1, 5, 2, -5, 1, 2), lines(1, 7, 2, -5)}, // the document's
		{nil, nil},
		{[]api.Line{}, nil},
		{lines(3, 4), lines(3, 4)},
		{lines(3, 0), nil},
		{lines(7, 1, 6, 2, 5, 3, 4, -4, 3, 5, 2, 6, 1, 7), lines(1, 7, 2, 6, 3, 5, 4, -4, 5, 3, 6, 2, 7, 1)},
		{lines(2, -5, 1, 5), lines(1, 5, 2, -5)},
		{lines(4, 3, 4, -3), nil},
		{lines(4, 3, 5, 1, 4, -3), lines(5, 1)},
		{lines(4, 3, 4, -2, 4, -1, 4, 8), lines(4, 8)},
		{lines(1, 1, 2, 1, 1, 1, 2, 1, 1, -5), lines(1, -3, 2, 2)},
		{lines(6, m, 6, m, 6, -m), lines(6, m)},
		{lines(6, m, 6, m, 6, m), lines(6, 3*m)}, // the sum need not be Money
		{lines(6, -m, 5, 1, 6, -m), lines(5, 1, 6, -2*m)},
	})
}

// TestMergeOmits is of P6.1, Merge: accounts that do not exist are omitted, without a trace on the others.
func TestMergeOmits(t *testing.T) {
	for _, account := range noAccounts {
		testMerge(t, []mergeRow{
			{lines(account, 5), nil},
			{lines(account, 5, 1, 2, account, 6, 3, 4, account, m), lines(1, 2, 3, 4)},
		})
	}
	testMerge(t, []mergeRow{{lines(0, 1, 8, 2, 7, 3, 9, 4, -1, 5, 1, 6), lines(1, 6, 7, 3)}})
}

// TestMergeRefuses is of P6.1, Merge: too many lines, and amounts that are not Money, on whatever account.
func TestMergeRefuses(t *testing.T) {
	for _, n := range noMoney {
		testMerge(t, []mergeRow{
			{lines(1, n), nil},
			{lines(1, 5, 2, n), nil},
			{lines(2, n, 1, 5), nil},
			{lines(1, 5, 0, n), nil}, // an account that does not exist
			{lines(1, 5, 9, n, 2, 6), nil},
			{lines(1, 5, 2, n, 2, -n), nil},
		})
	}
	for _, n := range []int{41, 42, 80, 1000} {
		few := append(repeat(api.Line{Account: 9, Amount: 1}, n-1), api.Line{Account: 3, Amount: 5})
		testMerge(t, []mergeRow{
			{repeat(api.Line{Account: 3, Amount: 1}, n), nil},
			{make([]api.Line, n), nil},
			{few, nil}, // lines that would be omitted count, too
		})
	}
}

// TestMergeMost is of P6.1, Merge and Net: 40 lines are summed, of the greatest amounts, too.
func TestMergeMost(t *testing.T) {
	ones := repeat(api.Line{Account: 3, Amount: 1}, 40)
	most, least := repeat(api.Line{Account: 7, Amount: m}, 40), repeat(api.Line{Account: 1, Amount: -m}, 40)
	testMerge(t, []mergeRow{
		{ones, lines(3, 40)},
		{ones[:39], lines(3, 39)},
		{most, lines(7, 40*m)},
		{least, lines(1, -40*m)},
		{append(slices.Clone(most[:20]), least[:20]...), lines(1, -20*m, 7, 20*m)},
	})
	for _, c := range []struct {
		l             []api.Line
		account, want int
	}{{ones, 3, 40}, {most, 7, 40 * m}, {least, 1, -40 * m}, {append(ones, ones[0]), 3, 0}, {append(most, lines(1, 1)...), 7, 0}, {make([]api.Line, 41), 0, 0}} {
		if got := journal.Net(c.l, c.account); got != c.want {
			t.Errorf("Net of %d lines = %d; want %d", len(c.l), got, c.want)
		}
	}
}

// TestReverse is of P6.1, Reverse: every line, where it stood, of whatever account and amount.
func TestReverse(t *testing.T) {
	for _, c := range []struct{ l, want []api.Line }{
		{nil, nil},
		{[]api.Line{}, nil},
		{lines(1, 5, 2, -5), lines(1, -5, 2, 5)},
		{lines(2, -5, 1, 5, 2, -5), lines(2, 5, 1, -5, 2, 5)},
		{lines(1, 0), lines(1, 0)},
		{lines(0, 3, -4, 4, 8, -5, math.MaxInt, 1, math.MinInt, -1), lines(0, -3, -4, -4, 8, 5, math.MaxInt, -1, math.MinInt, 1)},
		{lines(1, m, 2, -m, 3, m+1, 4, -m-1), lines(1, -m, 2, m, 3, -m-1, 4, m+1)},
		{lines(1, math.MaxInt, 2, -math.MaxInt), lines(1, -math.MaxInt, 2, math.MaxInt)},
		{repeat(api.Line{Account: 1, Amount: 1}, 5000), repeat(api.Line{Account: 1, Amount: -1}, 5000)},
	} {
		was := slices.Clone(c.l)
		if got := journal.Reverse(c.l); !slices.Equal(got, c.want) {
			t.Errorf("Reverse(%v) = %v; want %v", was, got, c.want)
		}
		if got := journal.Reverse(journal.Reverse(c.l)); !slices.Equal(got, was) || !slices.Equal(c.l, was) {
			t.Errorf("Reverse twice: %v of %v, which are now %v", got, was, c.l)
		}
	}
}

// TestNet is of P6.1, Net: the amounts of one account, even of one that does not exist.
func TestNet(t *testing.T) {
	l := lines(1, 5, 2, -5, 1, 2, 9, 4, 4, 3, 4, -3, 7, 0, -1, 8, 9, 1, 0, -6)
	for account, want := range map[int]int{1: 7, 2: -5, 3: 0, 4: 0, 5: 0, 6: 0, 7: 0, 8: 0, 9: 5, -1: 8, 0: -6, 10: 0, -2: 0, 1<<32 + 1: 0, math.MaxInt: 0, math.MinInt: 0} {
		if got := journal.Net(l, account); got != want {
			t.Errorf("Net(%d) = %d; want %d", account, got, want)
		}
	}
	for _, account := range append([]int{1, 2, 3, 4, 5, 6, 7}, noAccounts...) {
		if got := journal.Net(lines(account, m, account, 3, account, -m, account, -7), account); got != -4 {
			t.Errorf("Net(%d) = %d", account, got)
		}
		if got := journal.Net(nil, account); got != 0 {
			t.Errorf("Net(nil, %d) = %d", account, got)
		}
	}
}

// TestNetRefuses is of P6.1, Net: amounts that are not Money, on this account, on another and on none.
func TestNetRefuses(t *testing.T) {
	for _, n := range noMoney {
		for _, l := range [][]api.Line{lines(1, n), lines(1, 5, 1, n), lines(1, n, 1, 5), lines(1, 5, 2, n), lines(0, n, 1, 5), lines(1, 5, 9, n, 1, 6), lines(1, 5, 2, n, 2, -n)} {
			if got := journal.Net(l, 1); got != 0 {
				t.Errorf("Net(%v, 1) = %d", l, got)
			}
		}
	}
}

// TestMemory is of P6.1 and R4: arguments stay as they are, what lies behind them is not read, and results are new memory.
func TestMemory(t *testing.T) {
	all := lines(1, 5, 2, -5, 1, 3, 2, -3, 4, math.MinInt, 5, 1)
	was := slices.Clone(all)
	if got := journal.Check(all[:2]); got != api.OK {
		t.Error("Check", got)
	}
	if got := journal.Sides(all[:4]); got != 8+8i {
		t.Error("Sides", got)
	}
	if got := journal.Net(all[:4], 1); got != 8 {
		t.Error("Net", got)
	}
	for _, f := range []func() []api.Line{
		func() []api.Line { return journal.Merge(all[:4]...) },
		func() []api.Line { return journal.Merge(all[:2]...) },
		func() []api.Line { return journal.Reverse(all[:4]) },
		func() []api.Line { return journal.Reverse(all[:0]) },
	} {
		first, second := f(), f()
		want := slices.Clone(second)
		whole := first[:cap(first)]
		for i := range whole {
			whole[i] = api.Line{Account: -9, Amount: -9}
		}
		if !slices.Equal(second, want) || !slices.Equal(all, was) || !slices.Equal(f(), want) {
			t.Errorf("after %v was written: %v, %v, %v", want, second, all, f())
		}
	}
	got := journal.Reverse(all[:2])
	all[0] = api.Line{Account: 6, Amount: 6}
	if !slices.Equal(got, lines(1, -5, 2, 5)) {
		t.Error("after the argument was written:", got)
	}
}

// net sums without bounds, and tells whether all amounts are Money.
func net(l []api.Line, account int) (int, bool) {
	total, ok := new(big.Int), true
	for _, line := range l {
		ok = ok && -m <= line.Amount && line.Amount <= m
		if line.Account == account {
			total.Add(total, big.NewInt(int64(line.Amount)))
		}
	}
	return int(total.Int64()), ok
}

// TestAgainstModel holds all functions against each other and against sums without bounds (R6).
func TestAgainstModel(t *testing.T) {
	seed := 1
	next := func(n int) int {
		seed = (seed*48271 + 11) % 2147483647
		return seed % n
	}
	amounts := []int{1, -1, 2, -2, 3, -3, 0, m, -m, m - 1, 1 - m}
	checked := 0
	for range 20000 {
		l := make([]api.Line, next(8))
		account := next(2)
		for i := range l {
			l[i] = api.Line{Account: account, Amount: amounts[next(len(amounts)-next(5))]}
			account += 1 + next(3) - next(2)
		}
		if next(3) == 0 && len(l) > 0 {
			l[next(len(l))].Amount = noMoney[next(len(noMoney))]
		}
		if checkModel(t, l) {
			checked++
		}
	}
	if checked < 100 || checked > 15000 {
		t.Error("of little use:", checked)
	}
}

// checkModel holds all functions against the model for l, and tells whether l is a journal.
func checkModel(t *testing.T, l []api.Line) bool {
	t.Helper()
	var want []api.Line
	for account := -1; account < 12; account++ {
		n, ok := net(l, account)
		if !ok {
			n = 0
		}
		if got := journal.Net(l, account); got != n {
			t.Errorf("Net(%v, %d) = %d; want %d", l, account, got, n)
		}
		if 1 <= account && account <= 7 && n != 0 {
			want = append(want, api.Line{Account: account, Amount: n})
		}
	}
	merged := journal.Merge(l...)
	if !slices.Equal(merged, want) {
		t.Errorf("Merge(%v) = %v; want %v", l, merged, want)
	}
	// A journal is what merging leaves as it is, and what is even.
	whole := slices.Equal(merged, l) && sides.Even(journal.Sides(l))
	if got := journal.Check(l); whole && got != api.OK || !whole && got != api.ErrForm {
		t.Errorf("Check(%v) = %d", l, got)
	}
	reversed := journal.Reverse(l)
	if journal.Check(reversed) != journal.Check(l) || journal.Sides(reversed) != sides.Turn(journal.Sides(l)) {
		t.Errorf("Reverse(%v) = %v", l, reversed)
	}
	if rest := journal.Merge(append(reversed, l...)...); len(rest) > 0 {
		t.Errorf("%v and its reverse leave %v", l, rest)
	}
	return whole
}
