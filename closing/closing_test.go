package closing_test

import (
	"math"
	"math/big"
	"math/rand"
	"slices"
	"testing"

	"scutage/allow"
	"scutage/api"
	"scutage/bucket"
	"scutage/closing"
	"scutage/current"
	"scutage/enact"
	"scutage/measure"
	"scutage/rate"
	"scutage/remeasure"
	"scutage/roll"
	"scutage/vintage"
)

const (
	most       = api.MaxMoney
	whole      = api.MaxRate
	lastYear   = api.MaxYear
	lastPeriod = api.MaxPeriod
)

// wrong numbers of each kind: one past each bound, far past it, and what goes round when it is negated, summed or cut short.
var (
	common       = []int{-1, -2, math.MinInt, math.MinInt + 1, math.MinInt + 5, 1 << 32, 1<<32 + 5, 1 << 62, math.MaxInt - 1, math.MaxInt}
	wrongRates   = append([]int{whole + 1, whole + 2, 2 * whole, api.MaxFx, -whole, most}, common...)
	wrongYears   = append([]int{lastYear + 1, lastYear + 2, 2 * lastYear, 399, -lastYear}, common...)
	wrongPeriods = append([]int{lastPeriod + 1, lastPeriod + 2, 403, 404, 2 * lastPeriod, -3, -4, -5, -lastPeriod}, common...)
	wrongMoney   = []int{most + 1, -most - 1, 2 * most, -2 * most, 1 << 40, -(1 << 40), 1 << 62, -(1 << 62), math.MaxInt, math.MaxInt - 1, math.MinInt, math.MinInt + 1}
)

func b(class, year, amount int) api.Bucket {
	return api.Bucket{Class: class, Year: year, Amount: amount}
}

func v(origin, expiry, left int) api.Vintage {
	return api.Vintage{Origin: origin, Expiry: expiry, Left: left}
}

func row(class, year, opening, movement, closing int) roll.Row {
	return roll.Row{Class: class, Year: year, Opening: opening, Movement: movement, Closing: closing}
}

// e is a rate of the place "uk", from a year on, enacted in a period.
type e struct{ year, rate, at int }

func table(t *testing.T, rates ...e) *enact.Table {
	t.Helper()
	x := enact.New()
	for _, r := range rates {
		if n := x.Add("uk", r.year, r.rate, r.at); n != api.OK {
			t.Fatalf("Add(%v) = %d", r, n)
		}
	}
	return x
}

func register(t *testing.T, buckets ...api.Bucket) *bucket.Register {
	t.Helper()
	r := bucket.New()
	move(t, r, buckets...)
	return r
}

func move(t *testing.T, r *bucket.Register, buckets ...api.Bucket) {
	t.Helper()
	for _, x := range buckets {
		if n := r.Move(x.Class, x.Year, x.Amount); n != api.OK {
			t.Fatalf("%v: Move(%v) = %d", r.Rows(), x, n)
		}
	}
}

func losses(t *testing.T, vintages ...api.Vintage) *vintage.Losses {
	t.Helper()
	l := vintage.New()
	for _, x := range vintages {
		if n := l.Add(x.Origin, x.Expiry, x.Left); n != api.OK {
			t.Fatalf("%v: Add(%v) = %d", l.Rows(), x, n)
		}
	}
	return l
}

// given is what Make is given.
type given struct {
	t       *enact.Table
	in      closing.Input
	opening closing.Balances
	l       *vintage.Losses
	r       *bucket.Register
}

func (g given) run() (closing.Provision, *vintage.Losses, api.Errno) {
	return closing.Make(g.t, g.in, g.opening, g.l, g.r)
}

// state is all that a later call could tell of what Make was given.
func (g given) state() given {
	return given{g.t.Clone(), g.in, copied(g.opening), g.l.Clone(), g.r.Clone()}
}

func (g given) unchanged(was given) bool {
	return slices.Equal(g.t.Rows(), was.t.Rows()) && sameBalances(g.opening, was.opening) && slices.Equal(g.l.Rows(), was.l.Rows()) && slices.Equal(g.r.Rows(), was.r.Rows())
}

func copied(x closing.Balances) closing.Balances {
	x.Buckets, x.Rates = slices.Clone(x.Buckets), slices.Clone(x.Rates)
	return x
}

func sameBalances(x, y closing.Balances) bool {
	return x.Period == y.Period && slices.Equal(x.Buckets, y.Buckets) && slices.Equal(x.Rates, y.Rates) && x.Next == y.Next && x.Left == y.Left && x.Temp == y.Temp && x.Loss == y.Loss && x.Allow == y.Allow
}

func sameResult(x, y current.Result) bool {
	vector := slices.Equal(x.Vector, y.Vector)
	return vector && x.Income == y.Income && x.Expired == y.Expired && x.Used == y.Used && x.New == y.New && x.Taxable == y.Taxable && x.Tax == y.Tax
}

func same(x, y closing.Provision) bool {
	return x.Input == y.Input && x.Rate == y.Rate && sameBalances(x.Opening, y.Opening) && sameBalances(x.Closing, y.Closing) && sameResult(x.Current, y.Current) &&
		slices.Equal(x.Rows, y.Rows) && slices.Equal(x.Now, y.Now) && x.Temp == y.Temp &&
		x.LossMoved == y.LossMoved && x.LossRates == y.LossRates && x.AllowMoved == y.AllowMoved && x.Deferred == y.Deferred && x.Total == y.Total
}

// made returns what Make makes, which must be something; what it is given must stay as it is.
func made(t *testing.T, g given) (closing.Provision, *vintage.Losses) {
	t.Helper()
	was := g.state()
	p, after, n := g.run()
	if n != api.OK || after == nil || after == g.l {
		t.Fatalf("Make(%+v, %+v) of %v and %v: error %d", g.in, g.opening, g.l.Rows(), g.r.Rows(), n)
	}
	if !g.unchanged(was) {
		t.Errorf("Make(%+v, %+v) wrote what it was given", was.in, was.opening)
	}
	holdsBalances(t, p)
	return p, after
}

// mustMake holds all of a provision, and the losses after it.
func mustMake(t *testing.T, g given, want closing.Provision, left ...api.Vintage) (closing.Provision, *vintage.Losses) {
	t.Helper()
	p, after := made(t, g)
	if !same(p, want) {
		t.Errorf("Make(%+v, %+v) =\n%+v; want\n%+v", g.in, g.opening, p, want)
	}
	if got := after.Rows(); !slices.Equal(got, left) {
		t.Errorf("Make(%+v, %+v) leaves the losses %v; want %v", g.in, g.opening, got, left)
	}
	return p, after
}

// mustRefuse holds an error, that nothing comes with it (R3), and that it changed nothing (R2).
func mustRefuse(t *testing.T, g given, want api.Errno) {
	t.Helper()
	was := g.state()
	p, after, n := g.run()
	if n != want || !same(p, closing.Provision{}) || after != nil {
		t.Errorf("Make(%+v, %+v) of %v and %v = %+v, losses %t, error %d; want error %d alone", g.in, g.opening, g.l.Rows(), g.r.Rows(), p, after != nil, n, want)
	}
	if !g.unchanged(was) {
		t.Errorf("Make(%+v, %+v) wrote what it was given", was.in, was.opening)
	}
}

// holdsBalances holds P19.3, and that the Total is of its parts.
func holdsBalances(t *testing.T, p closing.Provision) {
	t.Helper()
	was, is := p.Opening, p.Closing
	if want := was.Temp + was.Loss + was.Allow - is.Temp - is.Loss - is.Allow; p.Deferred != want {
		t.Errorf("Deferred is %d, and the balances came down by %d: %+v", p.Deferred, want, p)
	}
	if p.Total != p.Current.Tax+p.Deferred+p.Input.TrueUp {
		t.Errorf("Total is %d: %+v", p.Total, p)
	}
}

// TestNone is of P19.1, None: Period -1, and nothing else; each is new.
func TestNone(t *testing.T) {
	for range 2 {
		x := closing.None()
		if !sameBalances(x, closing.Balances{Period: -1}) {
			t.Errorf("None() = %+v", x)
		}
		x.Buckets, x.Rates, x.Period = append(x.Buckets, b(1, 1, 1)), append(x.Rates, 1), 7
	}
}

// TestFirst is of P19.1, P19.2 and the document's example: of a first close without any entries everything is 0.
func TestFirst(t *testing.T) {
	for _, at := range []int{0, 1, 3, 4, 17, lastPeriod} {
		in := closing.Input{J: "uk", Period: at}
		g := given{table(t, e{0, 0, 0}), in, closing.None(), losses(t), register(t)}
		mustMake(t, g, closing.Provision{Input: in, Opening: closing.None(), Closing: closing.Balances{Period: at}})
		g.t = table(t, e{0, 300000, 0})
		mustMake(t, g, closing.Provision{Input: in, Rate: 300000, Opening: closing.None(), Closing: closing.Balances{Period: at, Next: 300000}})
		g.in.Book, g.in.Perm = 7, 3
		mustMake(t, g, closing.Provision{Input: g.in, Rate: 300000, Opening: closing.None(), Closing: closing.Balances{Period: at, Next: 300000}, Current: current.Result{Income: 10, Taxable: 10, Tax: 3}, Total: 3})
	}
}

// TestMake is of P19.1 and P19.2: four closes after each other, with all that a close may have.
func TestMake(t *testing.T) {
	rates := table(t, e{3, 300000, 12}, e{5, 250000, 14}, e{4, 200000, 17})
	l, r := losses(t), register(t, b(1, 9, -30), b(2, 5, 60), b(2, 6, 40))

	in := closing.Input{J: "uk", Period: 14, Book: 45, Perm: 5, Judge: 400000, Cap: 600000, Life: 5, TrueUp: -2}
	first := closing.Balances{Period: 14, Buckets: r.Rows(), Rates: []int{250000, 250000, 250000}, Next: 300000, Left: 20, Temp: 8 - 15 - 10, Loss: 6, Allow: -2}
	p, l := mustMake(t, given{rates, in, closing.None(), l, r}, closing.Provision{
		Input: in, Rate: 300000, Opening: closing.None(), Closing: first,
		Current: current.Result{Income: -20, New: 20},
		Rows:    []roll.Row{row(1, 9, 0, -30, -30), row(2, 5, 0, 60, 60), row(2, 6, 0, 40, 40)}, Now: first.Rates,
		Temp: remeasure.Change{Moved: 17}, LossMoved: -6, AllowMoved: 2, Deferred: 13, Total: 11,
	}, v(3, 8, 20))

	// the rate of 2004 came down to 200000 in this period: it is that of this period, and 250000 is the next year's
	move(t, r, b(2, 5, -60), b(2, 7, 5), b(1, 9, -10))
	in = closing.Input{J: "uk", Period: 17, Book: -30, Perm: 100, Judge: 1000000, Cap: 100000, Life: 7, TrueUp: 4}
	second := closing.Balances{Period: 17, Buckets: r.Rows(), Rates: []int{250000, 250000, 250000}, Next: 250000, Left: 7, Temp: 10 - 10 - 1, Loss: 2, Allow: -2}
	p, l = mustMake(t, given{rates, in, p.Closing, l, r}, closing.Provision{
		Input: in, Rate: 200000, Opening: first, Closing: second,
		Current: current.Result{Income: 135, Used: 13, Taxable: 122, Tax: 24, Vector: []int{13}},
		Rows:    []roll.Row{row(1, 9, -30, -10, -40), row(2, 5, 60, -60, 0), row(2, 6, 40, 0, 40), row(2, 7, 0, 5, 5)}, Now: []int{250000, 250000, 250000, 250000},
		Temp: remeasure.Change{Moved: -10 + 8 - 15 + 1}, LossRates: 6 - 5, LossMoved: 6 - 2 - 1, AllowMoved: 0, Deferred: -12, Total: 24 - 12 + 4,
	}, v(3, 8, 7))

	// a rate for 2006 on was enacted since: of what is there, and of what is gone
	if n := rates.Add("uk", 6, 500000, 20); n != api.OK {
		t.Fatal(n)
	}
	move(t, r, b(2, 6, -40), b(3, 0, 9))
	in = closing.Input{J: "uk", Period: 20, Book: 100, Judge: 1000000, Cap: 1000000, Life: 7}
	third := closing.Balances{Period: 20, Buckets: r.Rows(), Rates: []int{500000, 500000, 250000}, Next: 500000, Temp: 20 - 3 - 2}
	p, l = mustMake(t, given{rates, in, p.Closing, l, r}, closing.Provision{
		Input: in, Rate: 250000, Opening: second, Closing: third,
		Current: current.Result{Income: 131, Used: 7, Taxable: 124, Tax: 31, Vector: []int{7}},
		Rows:    []roll.Row{row(1, 9, -40, 0, -40), row(2, 6, 40, -40, 0), row(2, 7, 5, 0, 5), row(3, 0, 0, 9, 9)}, Now: []int{500000, 500000, 500000, 250000},
		Temp: remeasure.Change{Moved: -20 + 2, Rates: -10 + 10 + 2}, LossRates: 2 - 4, LossMoved: 2 - 0 + 2, AllowMoved: -2, Deferred: -16, Total: 15,
	})

	// nothing was entered, and nothing enacted
	in = closing.Input{J: "uk", Period: 21}
	fourth := third
	fourth.Period = 21
	mustMake(t, given{rates, in, p.Closing, l, r}, closing.Provision{
		Input: in, Rate: 250000, Opening: third, Closing: fourth,
		Rows: []roll.Row{row(1, 9, -40, 0, -40), row(2, 7, 5, 0, 5), row(3, 0, 9, 0, 9)}, Now: third.Rates,
	})
}

// TestRate is of P19.1: the rate is the place's own in the period's year, as known in the period: no later year's, no later enacted one, no other place's.
func TestRate(t *testing.T) {
	x := table(t, e{0, 1, 3}, e{2, 2, 3}, e{2, 3, 9}, e{3, 4, 5}, e{lastYear, 5, 5})
	if n := x.Add("de", 0, 6, 0); n != api.OK {
		t.Fatal(n)
	}
	for _, y := range []struct{ at, rate, next int }{{3, 1, 1}, {4, 1, 2}, {7, 1, 2}, {8, 2, 4}, {9, 3, 4}, {11, 3, 4}, {12, 4, 4}, {391, 4, 4}, {392, 4, 5}, {395, 4, 5}, {396, 5, 5}, {lastPeriod, 5, 5}} {
		for j, want := range map[string][2]int{"uk": {y.rate, y.next}, "de": {6, 6}} {
			in := closing.Input{J: j, Period: y.at, Book: most}
			p, _ := made(t, given{x, in, closing.None(), losses(t), register(t)})
			if p.Rate != want[0] || p.Closing.Next != want[1] || p.Current.Tax != want[0]*100000 {
				t.Errorf("%s at %d: rate %d, tax %d, next %d; want %v", j, y.at, p.Rate, p.Current.Tax, p.Closing.Next, want)
			}
		}
	}
}

// TestYear is of P19.1: losses expire, and new ones are of, the year of the period.
func TestYear(t *testing.T) {
	x := table(t, e{0, whole, 0})
	for _, y := range []struct{ at, year int }{{0, 0}, {3, 0}, {4, 1}, {7, 1}, {8, 2}, {396, 99}, {lastPeriod, 99}} {
		in := closing.Input{J: "uk", Period: y.at, Book: -5, Life: 3}
		g := given{x, in, closing.None(), losses(t, v(0, y.year, 7)), register(t)}
		p, after := made(t, g)
		if !slices.Equal(after.Rows(), []api.Vintage{v(0, y.year, 7), v(y.year, y.year+3, 5)}) || p.Closing.Left != 12 || p.Closing.Loss != 12 || p.Current.New != 5 {
			t.Errorf("at %d the losses are %v: %+v", y.at, after.Rows(), p)
		}
		if y.year > 0 {
			g.l = losses(t, v(0, y.year-1, 7))
			p, after = made(t, g)
			if !slices.Equal(after.Rows(), []api.Vintage{v(y.year, y.year+3, 5)}) || p.Closing.Left != 5 || p.Current.Expired != 7 {
				t.Errorf("at %d the losses are %v: %+v", y.at, after.Rows(), p)
			}
		}
	}
}

// TestMoved is of P19.1: the income is less by what moved since the opening, not by what there is.
func TestMoved(t *testing.T) {
	x := table(t, e{0, 500000, 0})
	r := register(t, b(1, 5, 100), b(2, 5, -40))
	in := closing.Input{J: "uk", Period: 4, Book: 1000, Perm: 30, Cap: 1, Life: 9}
	one, l := made(t, given{x, in, closing.None(), losses(t), r})
	if one.Current.Income != 970 || one.Current.Tax != 485 {
		t.Errorf("%+v", one.Current)
	}
	in.Period = 5
	two, _ := made(t, given{x, in, one.Closing, l, r})
	if two.Current.Income != 1030 || two.Temp != (remeasure.Change{}) {
		t.Errorf("%+v", two)
	}
	move(t, r, b(1, 5, -100), b(3, 6, -10))
	three, _ := made(t, given{x, in, two.Closing, l, r})
	if three.Current.Income != 1140 || three.Temp.Moved != -55 || three.Closing.Temp != 25 {
		t.Errorf("%+v", three)
	}
	// the same register, when nothing was closed
	again, _ := made(t, given{x, in, closing.None(), l, r})
	if again.Current.Income != 1080 || again.Temp.Moved != -25 || again.Closing.Temp != 25 {
		t.Errorf("%+v", again)
	}
}

// TestBucketsBefore is of P19.2: a bucket of a year that is over has the rate of the period's year, also where it is gone; of what was there the old rate is the opening's own.
func TestBucketsBefore(t *testing.T) {
	x := table(t, e{0, 100000, 0}, e{1, 200000, 0}, e{2, 400000, 0})
	r := register(t, b(1, 0, 100), b(1, 1, 1000), b(2, 0, 10), b(9, lastYear, 10000))
	in := closing.Input{J: "uk", Period: 0, Cap: whole, Life: 5}
	one, l := made(t, given{x, in, closing.None(), losses(t), r})
	if !slices.Equal(one.Closing.Rates, []int{100000, 200000, 100000, 400000}) || one.Closing.Temp != -10-200-1-4000 || one.Temp.Moved != 4211 {
		t.Errorf("%+v", one)
	}
	move(t, r, b(2, 0, -10), b(3, 0, 20))
	in.Period = 8
	two, _ := made(t, given{x, in, one.Closing, l, r})
	if !slices.Equal(two.Now, []int{400000, 400000, 400000, 400000, 400000}) || !slices.Equal(two.Closing.Rates, two.Now[:4]) {
		t.Errorf("Now is %v of %v, and Rates %v of %v", two.Now, two.Rows, two.Closing.Rates, two.Closing.Buckets)
	}
	if two.Temp != (remeasure.Change{Moved: -4 + 8, Rates: 30 + 200 + 3}) || two.Closing.Temp != -40-400-8-4000 {
		t.Errorf("%+v", two)
	}
}

// TestLosses is of P19.2: what came of the losses at the new rate, and what of the rate, on what was left.
func TestLosses(t *testing.T) {
	for _, y := range []struct{ rate, next, judge, book, lossRates, lossMoved, allowMoved int }{
		{300000, 300000, 0, 0, 0, 0, 0},
		{300000, 200000, 0, 0, 100, 0, 0},
		{200000, 300000, 0, 0, -100, 0, 0},
		{300000, 300000, 0, 400, 0, 120, 0},
		{300000, 300000, 0, 5000, 0, 300, 0},
		{300000, 300000, 0, -400, 0, -120, 0},
		{300000, 200000, 0, 400, 100, 80, 0},
		{300000, 200000, 0, 5000, 100, 200, 0},
		{300000, 200000, 0, -400, 100, -80, 0},
		{300000, 0, 0, 5000, 300, 0, 0},
		{300000, 200000, 500000, 400, 100, 80, 60},
		{300000, 200000, whole, 400, 100, 80, 120},
		{300000, 200000, whole, -400, 100, -80, 280},
		{300000, 500000, whole, 5000, -200, 500, 0},
	} {
		x := table(t, e{0, y.rate, 0}, e{2, y.next, 4})
		l, r := losses(t), register(t)
		one, l := made(t, given{x, closing.Input{J: "uk", Period: 3, Book: -1000, Life: 9}, closing.None(), l, r})
		in := closing.Input{J: "uk", Period: 4, Book: y.book, Judge: y.judge, Cap: whole, Life: 9}
		p, _ := made(t, given{x, in, one.Closing, l, r})
		if p.LossRates != y.lossRates || p.LossMoved != y.lossMoved || p.AllowMoved != y.allowMoved || p.Deferred != y.lossRates+y.lossMoved+y.allowMoved {
			t.Errorf("%+v: LossRates %d, LossMoved %d, AllowMoved %d, Deferred %d", y, p.LossRates, p.LossMoved, p.AllowMoved, p.Deferred)
		}
	}
}

// TestAllow is of P19.2: the allowance is of this close's asset, at what is judged now, and is given back.
func TestAllow(t *testing.T) {
	x := table(t, e{0, 300000, 0})
	l, r, opening := losses(t), register(t), closing.None()
	for i, y := range []struct{ book, judge, allow, moved int }{{-100, 400000, -12, 12}, {0, 400000, -12, 0}, {0, 500000, -15, 3}, {0, 50000, -2, -13}, {50, 50000, -1, -1}, {0, whole, -15, 14}, {50, whole, 0, -15}} {
		in := closing.Input{J: "uk", Period: i, Book: y.book, Judge: y.judge, Cap: whole, Life: 9}
		var p closing.Provision
		p, l = made(t, given{x, in, opening, l, r})
		if p.Closing.Allow != y.allow || p.AllowMoved != y.moved {
			t.Errorf("at %d: %+v", i, p)
		}
		opening = p.Closing
	}
}

// TestArg is of P19.1: each of period, judged rate and true-up past its bounds; and the bounds themselves.
func TestArg(t *testing.T) {
	g := given{table(t, e{0, 300000, 0}), closing.Input{J: "uk"}, closing.None(), losses(t), register(t)}
	for _, n := range wrongPeriods {
		g.in = closing.Input{J: "uk", Period: n}
		mustRefuse(t, g, api.ErrArg)
	}
	for _, n := range wrongRates {
		g.in = closing.Input{J: "uk", Judge: n}
		mustRefuse(t, g, api.ErrArg)
	}
	for _, n := range wrongMoney {
		g.in = closing.Input{J: "uk", TrueUp: n}
		mustRefuse(t, g, api.ErrArg)
	}
	for _, in := range []closing.Input{{}, {Period: lastPeriod}, {Judge: whole}, {TrueUp: most}, {TrueUp: -most}, {Period: lastPeriod, Judge: whole, TrueUp: -most}} {
		in.J = "uk"
		g.in = in
		p, _ := made(t, g)
		if p.Input != in || p.Total != in.TrueUp || p.Deferred != 0 {
			t.Errorf("%+v", p)
		}
	}
}

// TestErrRate is of P19.1: no rate of the place is known, of its year, or as yet.
func TestErrRate(t *testing.T) {
	for _, y := range []struct {
		rates []e
		at    int
	}{{nil, 0}, {nil, lastPeriod}, {[]e{{0, 1, 1}}, 0}, {[]e{{0, 1, 9}}, 8}, {[]e{{2, 1, 0}}, 7}, {[]e{{2, 1, 0}, {0, 1, 9}}, 7}, {[]e{{2, 1, 0}}, 3}, {[]e{{99, 1, 0}}, 395}, {[]e{{0, 1, lastPeriod}}, lastPeriod - 1}} {
		g := given{table(t, y.rates...), closing.Input{J: "uk", Period: y.at}, closing.None(), losses(t), register(t, b(1, 99, 5))}
		mustRefuse(t, g, api.ErrRate)
		if len(y.rates) == 1 {
			g.in.Period = max(y.rates[0].at, 4*y.rates[0].year)
			made(t, g)
			for _, j := range []string{"", "u", "ukx", "UK", "de"} {
				g.in.J = j
				mustRefuse(t, g, api.ErrRate)
			}
		}
	}
}

// TestCurrentErrors is of P19.1: each error of current.Tax.
func TestCurrentErrors(t *testing.T) {
	g := given{table(t, e{0, 300000, 0}), closing.Input{}, closing.None(), losses(t), register(t)}
	for _, n := range wrongRates {
		g.in = closing.Input{J: "uk", Cap: n}
		mustRefuse(t, g, api.ErrArg)
	}
	for _, n := range wrongYears {
		g.in = closing.Input{J: "uk", Life: n}
		mustRefuse(t, g, api.ErrArg)
	}
	for _, n := range wrongMoney {
		g.in = closing.Input{J: "uk", Book: n}
		mustRefuse(t, g, api.ErrOver)
		g.in = closing.Input{J: "uk", Perm: n}
		mustRefuse(t, g, api.ErrOver)
		g.in = closing.Input{J: "uk", Book: -n, Perm: n}
		mustRefuse(t, g, api.ErrOver)
	}
	g.in = closing.Input{J: "uk", Book: most, Perm: 1}
	mustRefuse(t, g, api.ErrOver)
	g.in = closing.Input{J: "uk", Book: -most, Perm: -1}
	mustRefuse(t, g, api.ErrOver)
	g.in, g.r = closing.Input{J: "uk", Book: most}, register(t, b(1, 1, -1))
	mustRefuse(t, g, api.ErrOver)

	// Add's
	g.r, g.l = register(t), losses(t, v(0, 9, most-4))
	g.in = closing.Input{J: "uk", Book: -5, Life: 9}
	mustRefuse(t, g, api.ErrOver)
	g.in.Book = -4
	made(t, g)
	g.l = losses(t)
	for i := range api.MaxVintages {
		if n := g.l.Add(0, 50+i, 1); n != api.OK {
			t.Fatal(n)
		}
	}
	mustRefuse(t, g, api.ErrLimit)
	g.in.Life = 50
	made(t, g)
}

// TestMovedOver is of P19.1: a movement that is not Money is an income that is not, whatever the books have.
func TestMovedOver(t *testing.T) {
	x := table(t, e{0, 0, 0})
	r := register(t, b(1, 5, most))
	one, l := made(t, given{x, closing.Input{J: "uk"}, closing.None(), losses(t), r})
	move(t, r, b(1, 5, -most), b(1, 5, -1))
	for _, book := range []int{0, -most, most} {
		mustRefuse(t, given{x, closing.Input{J: "uk", Book: book, Perm: -1}, one.Closing, l, r}, api.ErrOver)
	}
	move(t, r, b(1, 5, 1))
	made(t, given{x, closing.Input{J: "uk"}, one.Closing, l, r})
}

// TestTempOver is of P19.2: buckets that are Money together, and whose deferred tax is not.
func TestTempOver(t *testing.T) {
	x := table(t, e{0, whole, 0}, e{5, 0, 0}, e{6, whole, 0})
	r := register(t, b(1, 1, most), b(1, 5, -most), b(2, 1, 1))
	g := given{x, closing.Input{J: "uk", Book: 5, Perm: -5}, closing.None(), losses(t), r}
	mustRefuse(t, g, api.ErrOver)
	move(t, r, b(2, 1, -1))
	p, _ := made(t, g)
	if p.Closing.Temp != -most || p.Deferred != most || p.Total != most {
		t.Errorf("%+v", p)
	}
	move(t, r, b(2, 6, 1))
	mustRefuse(t, g, api.ErrOver)
}

// TestRemeasureOver is of P19.2: the error of remeasure.Temp, where all balances and all costs are Money.
func TestRemeasureOver(t *testing.T) {
	x := table(t, e{0, 0, 0}, e{5, whole, 0}, e{7, 0, 0}, e{7, whole, 4})
	r := register(t, b(1, 5, most-1), b(1, 7, 1))
	one, l := made(t, given{x, closing.Input{J: "uk"}, closing.None(), losses(t), r})
	if one.Closing.Temp != 1-most {
		t.Fatalf("%+v", one)
	}
	move(t, r, b(1, 5, 1-most), b(1, 5, -2), b(2, 0, 1))
	g := given{x, closing.Input{J: "uk", Period: 4, Book: -most}, one.Closing, l, r}
	mustRefuse(t, g, api.ErrOver) // Moved is -most - 1, Rates is 1
	move(t, r, b(1, 5, 1), b(2, 0, -1))
	p, _ := made(t, g)
	if p.Temp != (remeasure.Change{Moved: -most, Rates: 1}) || p.Closing.Temp != 0 || p.Deferred != 1-most {
		t.Errorf("%+v", p)
	}
}

// opened returns Balances that a close left, at rates that later ones are not: buckets of most in all, of which the deferred tax is -most, and losses of most, of which the asset is most.
func opened(t *testing.T, x *enact.Table, l *vintage.Losses, r *bucket.Register) (closing.Balances, *vintage.Losses) {
	t.Helper()
	p, after := made(t, given{x, closing.Input{J: "uk", Period: 0, Book: 0, Life: 50}, closing.None(), l, r})
	if p.Closing.Temp != -most || p.Closing.Loss != most {
		t.Fatalf("%+v", p)
	}
	return p.Closing, after
}

// TestBalanceOver is of P19.2: what comes of the movements and of the rates is Money each, and the balance's difference is not, while the costs of all are.
func TestBalanceOver(t *testing.T) {
	// from period 4 on nothing is due on the years 1 to 9
	x := table(t, e{0, whole, 0}, e{1, 0, 4}, e{10, whole, 0})
	r := register(t, b(1, 5, most))
	opening, l := opened(t, x, losses(t), r)
	move(t, r, b(2, 10, -most))
	in := closing.Input{J: "uk", Period: 4, Book: -most, Life: 50}
	mustRefuse(t, given{x, in, opening, l, r}, api.ErrOver)

	move(t, r, b(2, 10, most))
	in.Book = 0
	p, _ := made(t, given{x, in, opening, l, r})
	if p.Temp != (remeasure.Change{Rates: -most}) || p.LossRates != most || p.Closing.Temp != 0 || p.Deferred != 0 || p.Total != 0 {
		t.Errorf("%+v", p)
	}
	move(t, r, b(2, 10, -1))
	in.Book = -1
	mustRefuse(t, given{x, in, opening, l, r}, api.ErrOver) // the difference is most + 1; the costs are -1
	move(t, r, b(1, 5, -1), b(2, 10, 2))
	in.Book = 0
	p, _ = made(t, given{x, in, opening, l, r})
	if p.Temp != (remeasure.Change{Moved: 1, Rates: -most}) || p.Closing.Temp != -1 || p.Deferred != 1 {
		t.Errorf("%+v", p)
	}
}

// TestDeferredOver is of P19.2: each part of the deferred cost is Money, and all of them are not.
func TestDeferredOver(t *testing.T) {
	x := table(t, e{0, whole, 0}, e{1, 0, 4}, e{10, whole, 0})
	one, l := made(t, given{x, closing.Input{J: "uk", Book: -most, Life: 50}, closing.None(), losses(t), register(t)})
	if one.Closing.Loss != most {
		t.Fatalf("%+v", one)
	}
	// the losses are worth nothing any more: most; and what will be taxed comes up
	for _, y := range []struct {
		n    int
		want api.Errno
	}{{-1, api.OK}, {0, api.OK}, {1, api.ErrOver}, {most, api.ErrOver}} {
		g := given{x, closing.Input{J: "uk", Period: 4, Book: y.n, TrueUp: -y.n}, one.Closing, l, bucket.New()}
		if y.n != 0 {
			move(t, g.r, b(2, 10, y.n))
		}
		if y.want != api.OK {
			mustRefuse(t, g, y.want)
			continue
		}
		p, _ := made(t, g)
		if p.Deferred != most+y.n || p.LossRates != most {
			t.Errorf("%+v", p)
		}
	}
}

// TestTaxOver is of P19.2: the tax and the true-up are not Money together, though with the deferred cost they would be; and the other way round.
func TestTaxOver(t *testing.T) {
	x := table(t, e{0, whole, 0})
	g := given{x, closing.Input{J: "uk", TrueUp: 1}, closing.None(), losses(t), register(t, b(1, 1, -most))}
	mustRefuse(t, g, api.ErrOver)
	g.in.TrueUp = 0
	p, _ := made(t, g)
	if p.Current.Tax != most || p.Deferred != -most || p.Total != 0 {
		t.Errorf("%+v", p)
	}
	g.in.TrueUp = -most
	p, _ = made(t, g)
	if p.Total != -most {
		t.Errorf("%+v", p)
	}
	g.in.Book, g.in.TrueUp = -1, 1
	p, _ = made(t, g)
	if p.Current.Tax != most-1 || p.Total != 0 {
		t.Errorf("%+v", p)
	}
	g.in.TrueUp = 2
	mustRefuse(t, g, api.ErrOver)
	g.in.Book, g.in.TrueUp = -2, 2
	made(t, g)
}

// TestTotalOver is of P19.2: the Total is not Money, below or above, while its parts are.
func TestTotalOver(t *testing.T) {
	x := table(t, e{0, whole, 0})
	g := given{x, closing.Input{J: "uk", Book: most}, closing.None(), losses(t), register(t)}
	p, _ := made(t, g)
	if p.Total != most {
		t.Errorf("%+v", p)
	}
	// on 1 more that will be taxed: tax of most, and a deferred cost of 1
	g.in.Perm, g.r = 1, register(t, b(1, 1, 1))
	mustRefuse(t, g, api.ErrOver)
	g.in.TrueUp = -1
	p, _ = made(t, g)
	if p.Total != most || p.Deferred != 1 || p.Current.Tax != most {
		t.Errorf("%+v", p)
	}
	// below: a true-up of -most, and an asset of 1
	g.in, g.r = closing.Input{J: "uk", Book: -1, TrueUp: -most, Life: 1}, register(t)
	mustRefuse(t, g, api.ErrOver)
	g.in.TrueUp++
	p, _ = made(t, g)
	if p.Total != -most || p.Closing.Loss != 1 {
		t.Errorf("%+v", p)
	}
}

// TestOrder is of P19.1, P19.2 and R2: ErrArg of its own ahead of ErrRate, that ahead of current's, that ahead of what is not Money at last.
func TestOrder(t *testing.T) {
	x := table(t, e{1, whole, 0})
	all := closing.Input{J: "uk", Period: 3, Judge: -1, Cap: -1, Book: most + 1, TrueUp: most}
	g := given{x, all, closing.None(), losses(t), register(t, b(1, 1, -most))}
	mustRefuse(t, g, api.ErrArg)
	g.in.Judge = 0
	mustRefuse(t, g, api.ErrRate)
	g.in.TrueUp++
	mustRefuse(t, g, api.ErrArg)
	g.in.TrueUp--
	g.in.Period = 400
	mustRefuse(t, g, api.ErrArg)
	g.in.Period = -1
	mustRefuse(t, g, api.ErrArg)
	g.in.Period = 4
	mustRefuse(t, g, api.ErrArg) // the cap
	g.in.Cap, g.in.Life = 0, lastYear+1
	mustRefuse(t, g, api.ErrArg)
	g.in.Life = 5
	mustRefuse(t, g, api.ErrOver) // the book income
	g.in.Book = 0
	mustRefuse(t, g, api.ErrOver) // the tax and the true-up
	g.in.TrueUp = 0
	made(t, g)

	// current's ErrArg and ErrLimit ahead of the ErrOver of what is not Money
	g.in = closing.Input{J: "uk", Period: 4, Cap: whole + 1, Book: most, Perm: -most, TrueUp: most}
	mustRefuse(t, g, api.ErrArg)
	g.in.Cap, g.in.Book, g.in.Perm, g.in.TrueUp = 0, -most, -1, most
	for i := range api.MaxVintages {
		if n := g.l.Add(0, 50+i, 1); n != api.OK {
			t.Fatal(n)
		}
	}
	g.r = register(t, b(1, 1, most), b(1, 2, -most), b(1, 3, -1))
	g.t = table(t, e{1, whole, 0}, e{2, 0, 0}, e{3, whole, 0}) // Temp is -most + 1: no error of its own
	g.in.Book, g.in.Perm = -10, 0
	mustRefuse(t, g, api.ErrLimit)
	g.r = register(t, b(1, 1, most), b(1, 2, -most), b(1, 3, 1)) // Temp is not Money
	mustRefuse(t, g, api.ErrLimit)
	g.in.Book = 1
	mustRefuse(t, g, api.ErrOver)
}

// TestStrangeOpening is of R1: an opening that no Make left has no meaning, but does no harm, and what is not Money is refused.
func TestStrangeOpening(t *testing.T) {
	x := table(t, e{0, whole, 0})
	far := []int{math.MinInt, math.MinInt + 1, -1 << 62, -most - 1, -most, -1, 0, 1, most, most + 1, 1 << 62, math.MaxInt}
	for _, n := range far {
		for _, opening := range []closing.Balances{
			{}, {Period: n}, {Next: n}, {Left: n}, {Temp: n}, {Loss: n}, {Allow: n}, {Rates: []int{n}}, {Rates: []int{n, n, n}}, {Buckets: []api.Bucket{b(1, 1, n)}}, {Buckets: []api.Bucket{b(n, n, n)}},
			{Buckets: []api.Bucket{b(1, 1, n), b(1, 1, n)}}, {Buckets: []api.Bucket{b(2, 1, n), b(1, 1, n), b(9, 9, n)}, Rates: []int{n}}, {Buckets: []api.Bucket{b(n, 1, n), b(1, n, 1)}, Rates: []int{n, n, n}},
			{n, []api.Bucket{b(n, n, n)}, []int{n}, n, n, n, n, n},
		} {
			g := given{x, closing.Input{J: "uk", Period: 5}, opening, losses(t), register(t, b(1, 1, 1), b(2, 1, 5))}
			was := g.state()
			p, after, err := g.run()
			if (err == api.OK) != (after != nil) || err != api.OK && !same(p, closing.Provision{}) || !g.unchanged(was) {
				t.Errorf("Make of %+v: %+v, error %d", opening, p, err)
			}
		}
	}
	// each of what is to be Money alone
	for _, y := range []struct {
		rate    int
		opening closing.Balances
	}{
		{whole, closing.Balances{Left: most, Loss: most}}, // LossMoved is 2 most, LossRates is -most
		{whole, closing.Balances{Left: most, Loss: 1}},
		{0, closing.Balances{Left: most + 1, Next: whole, Loss: most}},         // LossRates is most + 1, LossMoved is -1
		{0, closing.Balances{Left: 1, Next: whole, Loss: most + 1, Allow: -1}}, // LossMoved is most, LossRates is 1, AllowMoved is -1
		{0, closing.Balances{Loss: -1, Allow: most + 1}},
		{0, closing.Balances{Temp: most + 1}},
		{0, closing.Balances{Temp: -most - 1}},
	} {
		g := given{table(t, e{0, y.rate, 0}), closing.Input{J: "uk"}, y.opening, losses(t), register(t)}
		mustRefuse(t, g, api.ErrOver)
	}
}

// TestMemory is of R4: what is written over a provision, or behind one of its lists, is in no other list, nor in what Make was given.
func TestMemory(t *testing.T) {
	x := table(t, e{0, 300000, 0})
	r := register(t, b(1, 5, 100), b(2, 6, -40))
	one, l := made(t, given{x, closing.Input{J: "uk", Book: 10, Life: 9}, closing.None(), losses(t), r})
	l.Add(0, 7, 5)
	in := closing.Input{J: "uk", Period: 1, Book: 500, Cap: whole, Life: 9}
	g := given{x, in, one.Closing, l, r}
	want, _ := made(t, g)
	overwrite := []func(p closing.Provision){
		func(p closing.Provision) { scratch(p.Opening.Buckets, b(7, 7, 7)) },
		func(p closing.Provision) { scratch(p.Opening.Rates, 7) },
		func(p closing.Provision) { scratch(p.Closing.Buckets, b(7, 7, 7)) },
		func(p closing.Provision) { scratch(p.Closing.Rates, 7) },
		func(p closing.Provision) { scratch(p.Current.Vector, 7) },
		func(p closing.Provision) { scratch(p.Rows, row(7, 7, 7, 7, 7)) },
		func(p closing.Provision) { scratch(p.Now, 7) },
	}
	for i, write := range overwrite {
		p, _ := made(t, g)
		write(p)
		// what was written over aside, all is as it was
		for j, other := range []bool{
			slices.Equal(p.Opening.Buckets, want.Opening.Buckets), slices.Equal(p.Opening.Rates, want.Opening.Rates),
			slices.Equal(p.Closing.Buckets, want.Closing.Buckets), slices.Equal(p.Closing.Rates, want.Closing.Rates),
			slices.Equal(p.Current.Vector, want.Current.Vector), slices.Equal(p.Rows, want.Rows), slices.Equal(p.Now, want.Now),
		} {
			if other != (i != j) {
				t.Errorf("writing over list %d: list %d is the same: %t", i, j, other)
			}
		}
		if again, _ := made(t, g); !same(again, want) {
			t.Errorf("writing over list %d: Make has %+v; want %+v", i, again, want)
		}
	}
	// Nothing is kept either: what was given goes on without the provision.
	move(t, r, b(3, 1, 5))
	g.opening.Buckets[0].Amount, g.opening.Rates[0] = 9, 9
	l.Expire(50)
	if want.Opening.Buckets[0].Amount != 100 || want.Opening.Rates[0] != 300000 || len(want.Closing.Buckets) != 2 || want.Current.Used == 0 {
		t.Errorf("%+v", want)
	}
}

// scratch writes over a list, and behind it.
func scratch[T any](l []T, x T) {
	for i := range l {
		l[i] = x
	}
	_ = append(l, x)
}

// TestOpeningBounds is of R4: what lies behind the lists of the opening isn't read or written.
func TestOpeningBounds(t *testing.T) {
	x := table(t, e{0, 300000, 0}, e{5, 200000, 1})
	buckets, rates := []api.Bucket{b(1, 5, 100), b(2, 6, -40), b(3, 7, 1000)}, []int{300000, 300000, 7}
	opening := closing.Balances{Buckets: buckets[:2], Rates: rates[:2], Next: 300000, Temp: -18}
	g := given{x, closing.Input{J: "uk", Period: 1}, opening, losses(t), register(t, buckets...)}
	p, _ := made(t, g)
	if p.Current.Income != -1000 || p.Temp != (remeasure.Change{Moved: 200, Rates: -10 + 4}) || len(p.Opening.Buckets) != 2 || len(p.Opening.Rates) != 2 {
		t.Errorf("%+v", p)
	}
	scratch(p.Opening.Buckets, b(9, 9, 9))
	scratch(p.Opening.Rates, 9)
	if !slices.Equal(buckets, []api.Bucket{b(1, 5, 100), b(2, 6, -40), b(3, 7, 1000)}) || !slices.Equal(rates, []int{300000, 300000, 7}) {
		t.Errorf("wrote %v, %v", buckets, rates)
	}
	// nil and empty are the same
	in := closing.Input{J: "uk"}
	for _, opening := range []closing.Balances{{Period: -1}, {Period: -1, Buckets: []api.Bucket{}, Rates: []int{}}, {Period: -1, Buckets: buckets[:0], Rates: rates[:0]}} {
		mustMake(t, given{x, in, opening, losses(t), register(t)}, closing.Provision{Input: in, Rate: 300000, Opening: closing.None(), Closing: closing.Balances{Next: 300000}})
	}
}

// TestIndependent is of R4: the losses before and after go their own ways, also where nothing came of the period.
func TestIndependent(t *testing.T) {
	x := table(t, e{0, 300000, 0})
	for _, book := range []int{100, 3, 0, -7} {
		g := given{x, closing.Input{J: "uk", Period: 1, Book: book, Cap: whole, Life: 9}, closing.None(), losses(t, v(0, 7, 5), v(0, 9, 6)), register(t)}
		_, after := made(t, g)
		rows := after.Rows()
		_, again := made(t, g)
		again.Expire(100)
		g.l.Expire(100)
		if got := after.Rows(); after == again || !slices.Equal(got, rows) {
			t.Errorf("book %d: the losses after it are %v; want %v", book, got, rows)
		}
		after.Expire(100)
		if n := g.l.Add(1, 2, 3); n != api.OK || len(after.Rows()) != 0 {
			t.Errorf("book %d: error %d, and %v", book, n, after.Rows())
		}
	}
}

// money reports whether all numbers are Money; they are given without bounds.
func money(l ...*big.Int) bool {
	for _, n := range l {
		if n.CmpAbs(big.NewInt(most)) > 0 {
			return false
		}
	}
	return true
}

// of is the share of n at the rate, rounded to the nearest, halves away from 0.
func of(n, r int) int {
	x := new(big.Int).Mul(big.NewInt(int64(max(n, -n))), big.NewInt(int64(2*r)))
	x.Add(x, big.NewInt(whole)).Quo(x, big.NewInt(2*whole))
	if n < 0 {
		return -int(x.Int64())
	}
	return int(x.Int64())
}

func minus(x, y int) *big.Int {
	return new(big.Int).Sub(big.NewInt(int64(x)), big.NewInt(int64(y)))
}

func plus(l ...*big.Int) *big.Int {
	sum := new(big.Int)
	for _, n := range l {
		sum.Add(sum, n)
	}
	return sum
}

// rateOf is the rate of a bucket of the year: that of the period's year, if it is over.
func rateOf(g given, year int) int {
	r, ok := g.t.Rate(g.in.J, max(year, g.in.Period/4), g.in.Period)
	if !ok {
		panic("it is known where that of the period is")
	}
	return r
}

// words is the document's words for Make, with the sums as numbers without bounds.
func words(g given) (closing.Provision, []api.Vintage, api.Errno) {
	var p closing.Provision
	fail := func(n api.Errno) (closing.Provision, []api.Vintage, api.Errno) {
		return closing.Provision{}, nil, n
	}
	in := g.in
	if in.Period < 0 || in.Period > 399 || in.Judge < 0 || in.Judge > whole || in.TrueUp < -most || in.TrueUp > most {
		return fail(api.ErrArg)
	}
	r, ok := g.t.Rate(in.J, in.Period/4, in.Period)
	if !ok {
		return fail(api.ErrRate)
	}
	p.Input, p.Rate, p.Opening = in, r, g.opening
	was, is := g.opening, closing.Balances{Period: in.Period, Buckets: g.r.Rows(), Next: rateOf(g, min(in.Period/4+1, 99))}
	had, old := map[[2]int]int{}, map[[2]int]int{}
	for i, x := range was.Buckets {
		had[[2]int{x.Class, x.Year}], old[[2]int{x.Class, x.Year}] = x.Amount, was.Rates[i]
	}
	moved, temp, byMoves, byRates := 0, new(big.Int), new(big.Int), new(big.Int)
	for class := 1; class <= api.MaxClass; class++ {
		for year := 0; year <= api.MaxYear; year++ {
			opening, there := had[[2]int{class, year}]
			has := g.r.Get(class, year)
			if !there && has == 0 {
				continue
			}
			now := rateOf(g, year)
			before := now
			if there {
				before = old[[2]int{class, year}]
			}
			if has != 0 {
				is.Rates = append(is.Rates, now)
				temp.Sub(temp, big.NewInt(int64(of(has, now))))
			}
			p.Rows = append(p.Rows, row(class, year, opening, has-opening, has))
			p.Now = append(p.Now, now)
			moved += has - opening
			byMoves = plus(byMoves, minus(of(has, now), of(opening, now)))
			byRates = plus(byRates, minus(of(opening, now), of(opening, before)))
		}
	}
	tax, after, n := current.Tax(g.l, in.Book, in.Perm, moved, in.Cap, in.Life, in.Period/4, r)
	if n != api.OK {
		return fail(n)
	}
	if !money(temp) || !money(byMoves, byRates) {
		return fail(api.ErrOver)
	}
	p.Current = tax
	is.Temp, is.Left = int(temp.Int64()), after.Left()
	is.Loss = of(is.Left, is.Next)
	is.Allow = -of(is.Loss, in.Judge)
	p.Closing = is
	p.Temp = remeasure.Change{Moved: int(byMoves.Int64()), Rates: int(byRates.Int64())}
	lossRates := minus(of(was.Left, was.Next), of(was.Left, is.Next))
	lossMoved := new(big.Int).Sub(minus(was.Loss, is.Loss), lossRates)
	allowMoved := minus(was.Allow, is.Allow)
	deferred := plus(byMoves, byRates, lossMoved, lossRates, allowMoved)
	paid := plus(big.NewInt(int64(tax.Tax)), big.NewInt(int64(in.TrueUp)))
	total := plus(paid, deferred)
	if !money(lossMoved, lossRates, allowMoved, paid, minus(is.Temp, was.Temp), minus(is.Loss, was.Loss), minus(is.Allow, was.Allow), deferred, total) {
		return fail(api.ErrOver)
	}
	p.LossRates, p.LossMoved, p.AllowMoved = int(lossRates.Int64()), int(lossMoved.Int64()), int(allowMoved.Int64())
	p.Deferred, p.Total = int(deferred.Int64()), int(total.Int64())
	return p, after.Rows(), api.OK
}

// someMoney is small, or of any size, or at a bound.
func someMoney(r *rand.Rand, great bool) int {
	if !great || r.Intn(3) == 0 {
		return r.Intn(400) - 200
	}
	return []int{most, -most, most - 1, r.Intn(2*most+1) - most, r.Intn(2*most+1) - most}[r.Intn(5)]
}

func someRate(r *rand.Rand) int {
	return []int{0, whole, 500000, r.Intn(whole + 1), r.Intn(whole + 1)}[r.Intn(5)]
}

// someTable has rates of a few years, enacted in a few periods, of two places.
func someTable(r *rand.Rand) *enact.Table {
	x := enact.New()
	if r.Intn(8) > 0 {
		x.Add("uk", 0, someRate(r), 0)
	}
	for range r.Intn(10) {
		x.Add([]string{"uk", "uk", "de"}[r.Intn(3)], r.Intn(8), someRate(r), r.Intn(16)) // one that is there is refused, which does no harm
	}
	return x
}

func someInput(r *rand.Rand, at int, great bool) closing.Input {
	in := closing.Input{J: "uk", Period: at, Judge: someRate(r), Cap: someRate(r), Life: r.Intn(4)}
	in.Book = someMoney(r, great)
	if r.Intn(2) == 0 {
		in.Perm = someMoney(r, great && r.Intn(3) == 0)
	}
	if r.Intn(3) == 0 {
		in.TrueUp = someMoney(r, great)
	}
	switch r.Intn(60) {
	case 0:
		in.Period = wrongPeriods[r.Intn(len(wrongPeriods))]
	case 1:
		in.Judge = wrongRates[r.Intn(len(wrongRates))]
	case 2:
		in.TrueUp = wrongMoney[r.Intn(len(wrongMoney))]
	case 3:
		in.Cap = wrongRates[r.Intn(len(wrongRates))]
	case 4:
		in.Life = wrongYears[r.Intn(len(wrongYears))]
	case 5:
		in.J = ""
	}
	return in
}

// TestModel is of P19.1, P19.2, P19.3 and R5: random closes after each other, now and then with a fault, against the document's words.
func TestModel(t *testing.T) {
	r := rand.New(rand.NewSource(19))
	seen := map[api.Errno]int{}
	for run := range 4000 {
		great := run%3 == 0
		x, l, reg, opening := someTable(r), vintage.New(), bucket.New(), closing.None()
		for at := r.Intn(4); at < 20; at += 1 + r.Intn(4) {
			for range r.Intn(5) {
				class, year, n := 1+r.Intn(3), r.Intn(8), someMoney(r, great)
				if r.Intn(3) == 0 {
					n = -reg.Get(class, year)
				}
				reg.Move(class, year, n)
			}
			g := given{x, someInput(r, at, great), opening, l, reg}
			want, left, n := words(g)
			seen[n]++
			if n != api.OK {
				mustRefuse(t, g, n)
			} else {
				p, after := mustMake(t, g, want, left...)
				mustMake(t, g, want, left...)
				holdsLosses(t, g, p, after)
				opening, l = p.Closing, after
			}
			if t.Failed() {
				t.FailNow()
			}
		}
	}
	for _, n := range []api.Errno{api.OK, api.ErrArg, api.ErrOver, api.ErrRate} {
		if seen[n] < 300 {
			t.Errorf("error %d came up %d times", n, seen[n])
		}
	}
}

// holdsLosses holds T4: what was carried forward was used, or expired, or is left; and no more is used than the cap allows.
func holdsLosses(t *testing.T, g given, p closing.Provision, after *vintage.Losses) {
	t.Helper()
	x := p.Current
	if g.l.Left()+x.New != x.Used+x.Expired+after.Left() || p.Closing.Left != after.Left() {
		t.Errorf("%v becomes %v: %+v", g.l.Rows(), after.Rows(), x)
	}
	if share, _ := rate.Floor(max(x.Income, 0), g.in.Cap); x.Used > share {
		t.Errorf("used %d of an income of %d, with the cap %d", x.Used, x.Income, g.in.Cap)
	}
}

// TestTogether is of P19.2 and P19.3: the closing is as the lower layers measure it, and over all closes Deferred sums to what the balances are.
func TestTogether(t *testing.T) {
	x := table(t, e{0, 310000, 0}, e{1, 190000, 2}, e{2, 255000, 6}, e{2, 245000, 9})
	l, r, opening, sum := losses(t), register(t), closing.None(), 0
	steps := [][]api.Bucket{{b(1, 0, 101), b(2, 1, -63)}, {b(1, 0, -101), b(1, 1, 57)}, {}, {b(2, 1, 63), b(3, 2, 41)}, {}, {b(3, 2, -41)}, {b(3, 3, 83)}, {}, {b(1, 2, -777)}, {}, {b(1, 2, 777)}}
	for at, books := range []int{50, -333, 20, 71, -5, 0, 900, -19, 1, 45, 4} {
		move(t, r, steps[at]...)
		in := closing.Input{J: "uk", Period: at, Book: books, Judge: 50000 * at, Cap: 550000, Life: 1}
		p, after := made(t, given{x, in, opening, l, r})
		is := p.Closing
		rates, _ := measure.Rates(x, "uk", r.Rows(), at)
		temp, _ := measure.Temp(r.Rows(), rates)
		next, _ := measure.NextRate(x, "uk", at)
		loss, _ := measure.Loss(after.Left(), next)
		allowance, _ := allow.Of(loss, in.Judge)
		if !sameBalances(is, closing.Balances{Period: at, Buckets: r.Rows(), Rates: rates, Next: next, Left: after.Left(), Temp: temp, Loss: loss, Allow: allowance}) {
			t.Errorf("at %d: %+v", at, is)
		}
		sum += p.Deferred
		if is.Temp+is.Loss+is.Allow != -sum {
			t.Errorf("at %d: the costs are %d, and the balances %d, %d, %d", at, sum, is.Temp, is.Loss, is.Allow)
		}
		opening, l = is, after
	}
}
