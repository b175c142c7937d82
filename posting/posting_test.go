package posting_test

import (
	"math"
	"math/big"
	"math/rand"
	"slices"
	"testing"

	"scutage/api"
	"scutage/bucket"
	"scutage/closing"
	"scutage/enact"
	"scutage/journal"
	"scutage/posting"
	"scutage/store"
	"scutage/vintage"
)

const (
	most       = api.MaxMoney
	whole      = api.MaxRate
	lastPeriod = api.MaxPeriod
)

// wrongMoney are amounts past the bounds of Money, near and far, and what goes round when it is summed.
var wrongMoney = []int{most + 1, -most - 1, 2 * most, -2 * most, 1 << 40, -(1 << 40), 1 << 52, 1 << 53, 1 << 62, -(1 << 62), math.MaxInt, math.MaxInt - 1, math.MinInt, math.MinInt + 1}

// noAccounts are numbers that denote no account.
var noAccounts = []int{0, -1, -3, -7, 8, 9, 100, 1<<8 + 1, 1<<16 + 3, 1<<32 + 1, 1<<32 + 7, math.MaxInt, math.MinInt, math.MinInt + 1, math.MinInt + 3}

// lines are of accounts and amounts, by turns.
func lines(n ...int) []api.Line {
	var l []api.Line
	for i := 0; i < len(n); i += 2 {
		l = append(l, api.Line{Account: n[i], Amount: n[i+1]})
	}
	return l
}

func b(class, year, amount int) api.Bucket {
	return api.Bucket{Class: class, Year: year, Amount: amount}
}

// books are those of a taxpayer of the place "uk", as the closes go on.
type books struct {
	t      *testing.T
	rates  *enact.Table
	losses *vintage.Losses
	r      *bucket.Register
	left   closing.Balances // what the close before left
}

// start has a rate of the place from the start.
func start(t *testing.T, rate int) *books {
	t.Helper()
	x := &books{t, enact.New(), vintage.New(), bucket.New(), closing.None()}
	x.enact(0, rate, 0)
	return x
}

func (x *books) enact(year, rate, at int) {
	x.t.Helper()
	if e := x.rates.Add("uk", year, rate, at); e != api.OK {
		x.t.Fatalf("Add(%d, %d, %d) = %d", year, rate, at, e)
	}
}

func (x *books) move(buckets ...api.Bucket) {
	x.t.Helper()
	for _, k := range buckets {
		if e := x.r.Move(k.Class, k.Year, k.Amount); e != api.OK {
			x.t.Fatalf("%v: Move(%v) = %d", x.r.Rows(), k, e)
		}
	}
}

// tried is a close that may fail; what comes of it is the next one's opening.
func (x *books) tried(in closing.Input) (closing.Provision, api.Errno) {
	in.J = "uk"
	p, after, e := closing.Make(x.rates, in, x.left, x.losses, x.r)
	if e == api.OK {
		x.losses, x.left = after, p.Closing
	}
	return p, e
}

func (x *books) close(in closing.Input) closing.Provision {
	x.t.Helper()
	p, e := x.tried(in)
	if e != api.OK {
		x.t.Fatalf("Make(%+v, %+v) of %v and %v: error %d", in, x.left, x.losses.Rows(), x.r.Rows(), e)
	}
	return p
}

// mustPost holds the lines of a provision, and P20.2.
func mustPost(t *testing.T, p closing.Provision, want ...api.Line) []api.Line {
	t.Helper()
	got := posting.Lines(p)
	if !slices.Equal(got, want) {
		t.Errorf("Lines(%+v) = %v; want %v", p, got, want)
	}
	if e := journal.Check(got); e != api.OK {
		t.Errorf("Check(%v) = %d", got, e)
	}
	if cost := posting.Cost(got...); cost != p.Total {
		t.Errorf("the cost of %v is %d; the Total is %d", got, cost, p.Total)
	}
	return got
}

// TestFirst is of P20.1 and the document's example: a first close without any entries has no lines, and neither has a zero Provision.
func TestFirst(t *testing.T) {
	mustPost(t, closing.Provision{})
	for _, rate := range []int{0, 1, 300000, whole} {
		for _, at := range []int{0, 1, 14, lastPeriod} {
			mustPost(t, start(t, rate).close(closing.Input{Period: at}))
			mustPost(t, start(t, rate).close(closing.Input{Period: at, Judge: whole, Cap: whole, Life: 9}))
		}
	}
	// amounts whose tax rounds to nothing, and a rate of nothing
	x := start(t, 300000)
	x.move(b(1, 5, 1), b(2, 5, -1))
	mustPost(t, x.close(closing.Input{Book: 1, Judge: whole}))
	x = start(t, 0)
	x.move(b(1, 5, most))
	mustPost(t, x.close(closing.Input{Book: 5}))
	mustPost(t, x.close(closing.Input{Period: 1, Book: most, Perm: -5}))
}

// TestCurrent is of P20.1: the tax and the true-up are costs of their own, and owed together.
func TestCurrent(t *testing.T) {
	for _, y := range []struct {
		book, trueUp int
		want         []api.Line
	}{
		{10, 0, lines(1, 3, 2, -3)},
		{0, 4, lines(2, -4, 7, 4)},
		{0, -4, lines(2, 4, 7, -4)},
		{10, 4, lines(1, 3, 2, -7, 7, 4)},
		{10, -1, lines(1, 3, 2, -2, 7, -1)},
		{10, -3, lines(1, 3, 7, -3)}, // nothing is owed
		{10, -5, lines(1, 3, 2, 2, 7, -5)},
		{10, 3, lines(1, 3, 2, -6, 7, 3)},
		{0, 1, lines(2, -1, 7, 1)},
		{most, 0, lines(1, most*3/10, 2, -most*3/10)},
		{0, most, lines(2, -most, 7, most)},
		{0, -most, lines(2, most, 7, -most)},
		{10, -most, lines(1, 3, 2, most-3, 7, -most)},
		{10, most - 3, lines(1, 3, 2, -most, 7, most-3)},
	} {
		mustPost(t, start(t, 300000).close(closing.Input{Period: 14, Book: y.book, TrueUp: y.trueUp}), y.want...)
	}
	mustPost(t, start(t, whole).close(closing.Input{Book: most}), lines(1, most, 2, -most)...)
	mustPost(t, start(t, whole).close(closing.Input{Book: most, TrueUp: -most}), lines(1, most, 7, -most)...)
}

// TestDeferred is of P20.1: a first close's balances, and what they cost; what costs nothing together has no line for that.
func TestDeferred(t *testing.T) {
	for _, y := range []struct {
		moved, book, judge int
		want               []api.Line
	}{
		{100, 100, 0, lines(3, 30, 4, -30)},
		{-100, -100, 0, lines(3, -30, 4, 30)},
		{0, -100, 0, lines(3, -30, 5, 30)},
		{0, -100, 400000, lines(3, -18, 5, 30, 6, -12)},
		{0, -100, whole, lines(5, 30, 6, -30)},
		{100, 0, 0, lines(4, -30, 5, 30)},
		{100, 0, 400000, lines(3, 12, 4, -30, 5, 30, 6, -12)},
		{100, 0, whole, lines(3, 30, 4, -30, 5, 30, 6, -30)},
		{100, 110, whole, lines(1, 3, 2, -3, 3, 30, 4, -30)},
		{-100, -90, whole, lines(1, 3, 2, -3, 3, -30, 4, 30)},
		{-40, -100, 500000, lines(3, -21, 4, 12, 5, 18, 6, -9)},
	} {
		x := start(t, 300000)
		if y.moved != 0 {
			x.move(b(2, 5, y.moved))
		}
		mustPost(t, x.close(closing.Input{Book: y.book, Judge: y.judge, Life: 9}), y.want...)
	}
}

// TestAll is of P20.1: closes after each other that have lines on all accounts; each is of what changed since the close before.
func TestAll(t *testing.T) {
	x := start(t, 300000)
	x.move(b(1, 5, 100), b(2, 6, -30))
	// temp -21, losses of 40: 12, allowance -6
	mustPost(t, x.close(closing.Input{Period: 4, Book: 30, Judge: 500000, Cap: whole, Life: 9, TrueUp: 2}), lines(2, -2, 3, 15, 4, -21, 5, 12, 6, -6, 7, 2)...)

	// an income of 30, half of it of losses; temp -6, losses of 25: 8, allowance -8
	x.move(b(1, 5, -50))
	mustPost(t, x.close(closing.Input{Period: 5, Book: -20, Judge: whole, Cap: 500000, Life: 9, TrueUp: -7}), lines(1, 5, 2, 2, 3, -9, 4, 15, 5, -4, 6, -2, 7, -7)...)

	// nothing was entered, so nothing is posted, though there are balances
	mustPost(t, x.close(closing.Input{Period: 6, Judge: whole, Cap: 1, Life: 1}))

	// another rate, of the buckets and of next year: temp -2, losses 3, allowance -2
	x.enact(2, 100000, 7)
	mustPost(t, x.close(closing.Input{Period: 7, Judge: 750000, Cap: whole, Life: 9}), lines(3, -5, 4, 4, 5, -5, 6, 6)...)

	// an income of 25, and all is gone
	x.move(b(1, 5, -50), b(2, 6, 30))
	mustPost(t, x.close(closing.Input{Period: 8, Book: 5, Judge: 750000, Cap: whole, Life: 9}), lines(3, -1, 4, 2, 5, -3, 6, 2)...)
	mustPost(t, x.close(closing.Input{Period: 9, Judge: whole}))
}

// TestBounds is of P20.1 and P20.2: balances, and changes of them, as great as they may be.
func TestBounds(t *testing.T) {
	for _, y := range []struct {
		moved, book, judge, trueUp int
		want                       []api.Line
	}{
		{most, most, 0, 0, lines(3, most, 4, -most)},
		{-most, -most, 0, 0, lines(3, -most, 4, most)},
		{0, -most, 0, 0, lines(3, -most, 5, most)},
		{0, -most, whole, 0, lines(5, most, 6, -most)},
		{most, 0, 0, 0, lines(4, -most, 5, most)},
		{most, 0, whole, 0, lines(3, most, 4, -most, 5, most, 6, -most)},
		{most, 0, whole, -most, lines(2, most, 3, most, 4, -most, 5, most, 6, -most, 7, -most)},
		{-most, 0, 0, 0, lines(1, most, 2, -most, 3, -most, 4, most)},
		{-most, 0, 0, -most, lines(1, most, 3, -most, 4, most, 7, -most)},
	} {
		x := start(t, whole)
		if y.moved != 0 {
			x.move(b(9, 99, y.moved))
		}
		p := x.close(closing.Input{Book: y.book, Judge: y.judge, TrueUp: y.trueUp, Life: 9})
		l := mustPost(t, p, y.want...)

		// all is given back, by a rate of nothing
		x.enact(0, 0, 1)
		back := x.close(closing.Input{Period: 1, Judge: y.judge})
		want := slices.DeleteFunc(journal.Reverse(l), func(line api.Line) bool { return line.Account <= 2 || line.Account == 7 })
		mustPost(t, back, want...)
	}
}

// TestMade is of P20.1: what a provision has beside what is booked has no line.
func TestMade(t *testing.T) {
	x := start(t, 300000)
	x.move(b(1, 5, 100))
	x.close(closing.Input{Book: -100, Judge: 500000, Life: 20})
	x.enact(1, 200000, 1)
	p := x.close(closing.Input{Period: 1, Book: 400, Perm: 7, Judge: 100000, Cap: 300000, Life: 20, TrueUp: 9})
	if p.Current.Used == 0 || p.Temp.Rates == 0 || p.LossRates == 0 || p.LossMoved == 0 || p.AllowMoved == 0 || len(p.Rows) == 0 {
		t.Fatalf("of little use: %+v", p)
	}
	want := mustPost(t, p, lines(1, 86, 2, -95, 3, p.Deferred, 4, 10, 5, p.Closing.Loss-60, 6, p.Closing.Allow+30, 7, 9)...)
	for i, change := range []func(p *closing.Provision){
		func(p *closing.Provision) { p.Rate, p.Now, p.Rows = 7, nil, nil },
		func(p *closing.Provision) { p.Temp.Moved, p.Temp.Rates = 1, 2 },
		func(p *closing.Provision) { p.LossMoved, p.LossRates, p.AllowMoved, p.Total = 1, 2, 3, 4 },
		func(p *closing.Provision) { p.Input = closing.Input{TrueUp: p.Input.TrueUp} },
		func(p *closing.Provision) { p.Current.Income, p.Current.Taxable, p.Current.Vector = 1, 2, nil },
		func(p *closing.Provision) { p.Current.Used, p.Current.New, p.Current.Expired = 1, 2, 3 },
		func(p *closing.Provision) { p.Opening.Period, p.Opening.Next, p.Opening.Left = 1, 2, 3 },
		func(p *closing.Provision) { p.Closing.Buckets, p.Closing.Rates, p.Closing.Left = nil, nil, 3 },
	} {
		other := p
		change(&other)
		if got := posting.Lines(other); !slices.Equal(got, want) {
			t.Errorf("change %d: %v; want %v", i, got, want)
		}
	}
}

// TestStrange is of R1 and R6: a provision that no Make made has no meaning, but does no harm; what is not Money has no lines.
func TestStrange(t *testing.T) {
	for _, n := range wrongMoney {
		for i, set := range []func(p *closing.Provision){
			func(p *closing.Provision) { p.Current.Tax = n },
			func(p *closing.Provision) { p.Input.TrueUp = n },
			func(p *closing.Provision) { p.Deferred = n },
			func(p *closing.Provision) { p.Closing.Temp = n },
			func(p *closing.Provision) { p.Closing.Loss = n },
			func(p *closing.Provision) { p.Closing.Allow = n },
			func(p *closing.Provision) { p.Opening.Temp = n },
			func(p *closing.Provision) { p.Opening.Loss = n },
			func(p *closing.Provision) { p.Opening.Allow = n },
			func(p *closing.Provision) { p.Current.Tax, p.Input.TrueUp = n, -n },
			func(p *closing.Provision) { p.Current.Tax, p.Input.TrueUp, p.Deferred = n, n, n },
		} {
			var p closing.Provision
			set(&p)
			if got := posting.Lines(p); len(got) != 0 {
				t.Errorf("%d of %d: %v", i, n, got)
			}
		}
	}
}

// mustCost holds what lines cost, and that they stay as they are.
func mustCost(t *testing.T, want int, l ...api.Line) {
	t.Helper()
	was := slices.Clone(l)
	if got := posting.Cost(l...); got != want {
		t.Errorf("Cost(%v) = %d; want %d", l, got, want)
	}
	if !slices.Equal(l, was) {
		t.Errorf("Cost(%v) has made them %v", was, l)
	}
}

// TestCost is of P20.1, Cost: the amounts of the three costs, in whatever order, as often as they come.
func TestCost(t *testing.T) {
	mustCost(t, 0)
	mustCost(t, 0, []api.Line{}...)
	for account := 1; account <= 7; account++ {
		for _, n := range []int{1, -1, 5, -5, 0, most, -most} {
			want := n
			if account != api.CurrentCost && account != api.DeferredCost && account != api.TrueUpCost {
				want = 0
			}
			mustCost(t, want, lines(account, n)...)
			mustCost(t, 2*want, lines(account, n, account, n)...)
			mustCost(t, want+7, lines(3, 7, account, n)...)
		}
	}
	mustCost(t, 1+4+64, lines(1, 1, 2, 2, 3, 4, 4, 8, 5, 16, 6, 32, 7, 64)...)
	mustCost(t, 1+4+64, lines(7, 64, 6, 32, 5, 16, 4, 8, 3, 4, 2, 2, 1, 1)...)
	mustCost(t, 6, lines(3, 5, 4, 9, 3, 1)...)
	mustCost(t, 0, lines(1, 5, 3, -2, 7, -3)...)
	mustCost(t, -10, lines(1, 5, 2, 3, 7, -8, 3, 1, 1, -8)...)
	mustCost(t, 3*most, lines(1, most, 3, most, 7, most)...) // the sum need not be Money
	mustCost(t, -3*most, lines(1, -most, 3, -most, 7, -most)...)
	for _, account := range noAccounts {
		mustCost(t, 0, lines(account, 5)...)
		mustCost(t, 3, lines(account, 5, 1, 1, account, most, 7, 2, account, -most)...)
	}
}

// TestCostRefuses is of P20.1, Cost: an amount that is not Money, on whatever account, costs or not.
func TestCostRefuses(t *testing.T) {
	for _, n := range wrongMoney {
		for _, account := range append([]int{1, 2, 3, 4, 5, 6, 7}, noAccounts...) {
			mustCost(t, 0, lines(account, n)...)
			mustCost(t, 0, lines(account, n, 1, 5)...)
			mustCost(t, 0, lines(3, 5, account, n)...)
			mustCost(t, 0, lines(7, 5, account, n, 7, 6)...)
			mustCost(t, 0, lines(1, 5, account, n, account, -n)...)
		}
	}
}

// TestCostMany is of P20.1, Cost: 40 lines are summed, to the unit; of more, the cost is 0, whatever they are.
func TestCostMany(t *testing.T) {
	repeat := func(account, n, times int) []api.Line { return slices.Repeat(lines(account, n), times) }
	for _, account := range []int{1, 3, 7} {
		for _, n := range []int{1, -1, most, -most, most - 1} {
			mustCost(t, 39*n, repeat(account, n, 39)...)
			mustCost(t, 40*n, repeat(account, n, 40)...)
			mustCost(t, n, append(repeat(2, -n, 39), lines(account, n)...)...)
			for _, times := range []int{41, 42, 80, 1000} {
				mustCost(t, 0, repeat(account, n, times)...)
			}
			mustCost(t, 0, append(repeat(2, n, 40), lines(account, n)...)...)
			mustCost(t, 0, append(lines(account, n), repeat(0, 0, 40)...)...)
		}
	}
	mustCost(t, 14*most-26*(most-1), slices.Concat(repeat(1, most, 14), repeat(3, 1-most, 13), repeat(7, 1-most, 13))...)
	mustCost(t, 0, make([]api.Line, 41)...)
	mustCost(t, 0, make([]api.Line, 100000)...)
}

// TestMemory is of R4: lines are new each time; a provision and lines stay as they are; what lies behind lines is not read.
func TestMemory(t *testing.T) {
	x := start(t, 300000)
	x.move(b(1, 5, 100))
	x.close(closing.Input{Book: 10, Judge: 500000, Life: 9})
	p := x.close(closing.Input{Period: 1, Book: 50, Cap: whole, Life: 9, TrueUp: 5})
	was := p
	was.Opening.Buckets, was.Closing.Buckets = slices.Clone(p.Opening.Buckets), slices.Clone(p.Closing.Buckets)
	was.Opening.Rates, was.Closing.Rates = slices.Clone(p.Opening.Rates), slices.Clone(p.Closing.Rates)
	first, second := posting.Lines(p), posting.Lines(p)
	want := slices.Clone(second)
	all := first[:cap(first)]
	for i := range all {
		all[i] = api.Line{Account: 9, Amount: 9}
	}
	_ = append(first, api.Line{Account: 9, Amount: 9})
	if len(want) == 0 || !slices.Equal(second, want) || !slices.Equal(posting.Lines(p), want) {
		t.Errorf("%v and %v; want %v", second, posting.Lines(p), want)
	}
	if !slices.Equal(p.Opening.Buckets, was.Opening.Buckets) || !slices.Equal(p.Closing.Buckets, was.Closing.Buckets) || !slices.Equal(p.Opening.Rates, was.Opening.Rates) || !slices.Equal(p.Closing.Rates, was.Closing.Rates) {
		t.Errorf("Lines has made %+v into %+v", was, p)
	}
	l := lines(1, 5, 2, -5, 3, 1, 1, math.MinInt, 7, 1)
	mustCost(t, 6, l[:3]...)
	mustCost(t, 5, l[:1]...)
	mustCost(t, 0, l[:0]...)
	mustCost(t, 1, append(make([]api.Line, 39, 100), l[2])...)
	if !slices.Equal(l, lines(1, 5, 2, -5, 3, 1, 1, math.MinInt, 7, 1)) {
		t.Error(l)
	}
}

// costWords is the document's words for Cost, without bounds.
func costWords(l []api.Line) int {
	if len(l) > 40 {
		return 0
	}
	sum := new(big.Int)
	for _, line := range l {
		if line.Amount > most || line.Amount < -most {
			return 0
		}
		switch line.Account {
		case api.CurrentCost, api.DeferredCost, api.TrueUpCost:
			sum.Add(sum, big.NewInt(int64(line.Amount)))
		}
	}
	return int(sum.Int64())
}

// TestCostModel is of P20.1, Cost, R5 and R6: random lines against the document's words.
func TestCostModel(t *testing.T) {
	r := rand.New(rand.NewSource(20))
	refused := 0
	for range 20000 {
		l := make([]api.Line, r.Intn(44))
		for i := range l {
			l[i] = api.Line{Account: r.Intn(10) - 1, Amount: someMoney(r, true)}
		}
		if len(l) > 0 && r.Intn(4) == 0 {
			l[r.Intn(len(l))].Amount = wrongMoney[r.Intn(len(wrongMoney))]
			refused++
		}
		mustCost(t, costWords(l), l...)
	}
	if refused < 1000 {
		t.Error("of little use:", refused)
	}
}

// someMoney is small, or of any size, or at a bound.
func someMoney(r *rand.Rand, great bool) int {
	if !great || r.Intn(3) == 0 {
		return r.Intn(400) - 200
	}
	return []int{most, -most, most - 1, r.Intn(2*most+1) - most, r.Intn(2*most+1) - most}[r.Intn(5)]
}

func someRate(r *rand.Rand) int {
	return []int{0, whole, 500000, r.Intn(whole + 1), r.Intn(whole + 1)}[r.Intn(5)]
}

// words is the document's words for Lines of a provision that Make made.
func words(p closing.Provision) []api.Line {
	amounts := [...]int{
		api.CurrentCost:  p.Current.Tax,
		api.Payable:      -p.Current.Tax - p.Input.TrueUp,
		api.DeferredCost: p.Deferred,
		api.TempBalance:  p.Closing.Temp - p.Opening.Temp,
		api.LossBalance:  p.Closing.Loss - p.Opening.Loss,
		api.Allowance:    p.Closing.Allow - p.Opening.Allow,
		api.TrueUpCost:   p.Input.TrueUp,
	}
	var l []api.Line
	for account, n := range amounts {
		if n != 0 {
			l = append(l, api.Line{Account: account, Amount: n})
		}
	}
	return l
}

// TestBooks is of P20.1, P20.2, T2 and T5: random closes after each other, posted: the trial balance shows the balances, and on the costs all that was spent; a close that is undone, and made again, has the same lines.
func TestBooks(t *testing.T) {
	r := rand.New(rand.NewSource(2020))
	posted, refused := 0, 0
	for run := range 2000 {
		great := run%4 == 0
		x, s := start(t, someRate(r)), store.New()
		for range r.Intn(6) {
			x.rates.Add("uk", r.Intn(6), someRate(r), r.Intn(16)) // one that is there is refused, which does no harm
		}
		costs := map[int]int{}
		for at := r.Intn(3); at < 20; at += 1 + r.Intn(4) {
			for range r.Intn(4) {
				x.r.Move(1+r.Intn(3), r.Intn(8), someMoney(r, great))
			}
			in := closing.Input{Period: at, Book: someMoney(r, great), Judge: someRate(r), Cap: someRate(r), Life: r.Intn(5)}
			if r.Intn(2) == 0 {
				in.Perm, in.TrueUp = someMoney(r, false), someMoney(r, great)
			}
			before := *x
			p, e := x.tried(in)
			if e != api.OK {
				refused++
				mustPost(t, p)
				continue
			}
			l := mustPost(t, p, words(p)...)
			if again, e := before.tried(in); e != api.OK || !slices.Equal(posting.Lines(again), l) {
				t.Errorf("error %d: %v; before it was %v", e, posting.Lines(again), l)
			}
			seq, e := s.Post("a", at, api.Provision, 0, l)
			if e != api.OK {
				// only of many great closes together
				if !great || e != api.ErrOver {
					t.Fatalf("Post(%v) = %d", l, e)
				}
				break
			}
			if r.Intn(3) == 0 {
				if _, e := s.Post("a", at, api.Reversal, seq, journal.Reverse(l)); e != api.OK {
					t.Fatalf("Post of what undoes %v: %d", l, e)
				}
				if _, e := s.Post("a", at, api.Provision, 0, posting.Lines(p)); e != api.OK {
					t.Fatalf("Post(%v) again: %d", l, e)
				}
			}
			costs[api.CurrentCost] += p.Current.Tax
			costs[api.DeferredCost] += p.Deferred
			costs[api.TrueUpCost] += p.Input.TrueUp
			holdTrial(t, s, p, costs)
			posted++
			if t.Failed() {
				t.FailNow()
			}
		}
	}
	if posted < 3000 || refused < 300 {
		t.Errorf("of little use: %d posted, %d refused", posted, refused)
	}
}

// holdTrial holds T2: all accounts are what the closes came to.
func holdTrial(t *testing.T, s *store.Store, p closing.Provision, costs map[int]int) {
	t.Helper()
	at, is := p.Input.Period, p.Closing
	for account, want := range map[int]int{
		api.CurrentCost: costs[api.CurrentCost], api.DeferredCost: costs[api.DeferredCost], api.TrueUpCost: costs[api.TrueUpCost],
		api.Payable:     -costs[api.CurrentCost] - costs[api.TrueUpCost],
		api.TempBalance: is.Temp, api.LossBalance: is.Loss, api.Allowance: is.Allow,
	} {
		if got := s.Balance("a", account, at); got != want {
			t.Errorf("at %d, account %d is %d; want %d: %+v", at, account, got, want, p)
		}
	}
	sum := costs[api.CurrentCost] + costs[api.DeferredCost] + costs[api.TrueUpCost]
	if got := posting.Cost(s.Trial("a", at)...); got != sum {
		t.Errorf("at %d the cost of all closes is %d; want %d", at, got, sum)
	}
}
