package vintage_test

import (
	"cmp"
	"math"
	"math/rand"
	"slices"
	"testing"

	"scutage/api"
	"scutage/vintage"
)

const (
	most = api.MaxMoney
	last = 2 * api.MaxYear
)

// wrong numbers of each kind: below what may be, beyond it, and what goes round.
var (
	common       = []int{-1, -2, -99, math.MinInt, math.MinInt + 1, math.MinInt + 5, 1 << 31, 1 << 32, 1<<32 + 5, 1 << 62, math.MaxInt}
	wrongOrigins = append([]int{100, 101, 105, last, last + 1, 399}, common...)
	wrongExpiry  = append([]int{last + 1, last + 2, 205, 399}, common...)
	wrongLoss    = []int{0, -1, -2, -most, most + 1, -most - 1, 2 * most, 1 << 40, 1 << 62, math.MaxInt, math.MinInt, math.MinInt + 1}
)

func v(origin, expiry, left int) api.Vintage {
	return api.Vintage{Origin: origin, Expiry: expiry, Left: left}
}

// mustNew returns Losses to which the vintages were added; each must be taken.
func mustNew(t *testing.T, vintages ...api.Vintage) *vintage.Losses {
	t.Helper()
	l := vintage.New()
	if l == nil {
		t.Fatal("New() = nil")
	}
	mustAdd(t, l, vintages...)
	return l
}

func mustAdd(t *testing.T, l *vintage.Losses, vintages ...api.Vintage) {
	t.Helper()
	for _, x := range vintages {
		if e := l.Add(x.Origin, x.Expiry, x.Left); e != api.OK {
			t.Fatalf("%v: Add(%v) = %d", l.Rows(), x, e)
		}
	}
}

// mustRefuse holds the error of an Add, and that it changed nothing (R2).
func mustRefuse(t *testing.T, l *vintage.Losses, origin, expiry, n int, e api.Errno) {
	t.Helper()
	before := l.Rows()
	if got := l.Add(origin, expiry, n); got != e {
		t.Errorf("%v: Add(%d, %d, %d) = %d; want %d", before, origin, expiry, n, got, e)
	}
	mustHave(t, l, before...)
}

func mustExpire(t *testing.T, l *vintage.Losses, year, want int, rows ...api.Vintage) {
	t.Helper()
	before := l.Rows()
	if got := l.Expire(year); got != want {
		t.Errorf("%v: Expire(%d) = %d; want %d", before, year, got, want)
	}
	mustHave(t, l, rows...)
}

// mustTake takes, and holds that the list that was handed in stays as it is.
func mustTake(t *testing.T, l *vintage.Losses, used ...int) {
	t.Helper()
	before, given := l.Rows(), slices.Clone(used)
	if e := l.Take(used); e != api.OK {
		t.Fatalf("%v: Take(%v) = %d", before, given, e)
	}
	if !slices.Equal(used, given) {
		t.Errorf("Take has made %v %v", given, used)
	}
}

// mustKeep holds that a Take is refused, and that it changed nothing (R2).
func mustKeep(t *testing.T, l *vintage.Losses, used ...int) {
	t.Helper()
	before, given := l.Rows(), slices.Clone(used)
	if e := l.Take(used); e != api.ErrArg {
		t.Errorf("%v: Take(%v) = %d; want %d", before, given, e, api.ErrArg)
	}
	mustHave(t, l, before...)
	if !slices.Equal(used, given) {
		t.Errorf("Take has made %v %v", given, used)
	}
}

// mustHave holds all that Losses tell: the rows and their sum.
func mustHave(t *testing.T, l *vintage.Losses, rows ...api.Vintage) {
	t.Helper()
	if got := l.Rows(); !slices.Equal(got, rows) {
		t.Errorf("Rows() = %v; want %v", got, rows)
	}
	left := 0
	for _, x := range rows {
		left += x.Left
	}
	if got := l.Left(); got != left {
		t.Errorf("%v: Left() = %d; want %d", rows, got, left)
	}
}

// full returns MaxVintages vintages, in order, two of each expiry, with room between, ahead of and behind them.
func full() []api.Vintage {
	var rows []api.Vintage
	for i := range api.MaxVintages {
		rows = append(rows, v(5+i, 40+i/2*10, i+1))
	}
	return rows
}

// TestNew is of P13.1, New: no vintages, and each time other Losses.
func TestNew(t *testing.T) {
	l, other := mustNew(t), mustNew(t, v(1, 2, 3))
	mustHave(t, l)
	mustHave(t, other, v(1, 2, 3))
	mustExpire(t, l, last+1, 0)
	mustTake(t, l)
	mustHave(t, l)
}

// TestAdd is of P13.1, Add: a vintage is of an origin and an expiry, both together; what is of the same is one.
func TestAdd(t *testing.T) {
	l := mustNew(t, v(5, 9, 10))
	mustHave(t, l, v(5, 9, 10))
	mustAdd(t, l, v(5, 9, 1))
	mustHave(t, l, v(5, 9, 11))
	mustAdd(t, l, v(5, 10, 4)) // the same origin alone
	mustHave(t, l, v(5, 9, 11), v(5, 10, 4))
	mustAdd(t, l, v(4, 9, 3)) // the same expiry alone
	mustHave(t, l, v(4, 9, 3), v(5, 9, 11), v(5, 10, 4))
	mustAdd(t, l, v(9, 9, 2))
	mustHave(t, l, v(4, 9, 3), v(5, 9, 11), v(9, 9, 2), v(5, 10, 4))
	mustAdd(t, l, v(5, 10, 100), v(4, 9, 200), v(9, 9, 300), v(5, 9, 400))
	mustHave(t, l, v(4, 9, 203), v(5, 9, 411), v(9, 9, 302), v(5, 10, 104))
}

// TestAddAll is of P13.1, Add: every origin with every expiry that may be, and the least and the greatest loss.
func TestAddAll(t *testing.T) {
	for origin := range api.MaxYear + 1 {
		for expiry := origin; expiry <= last; expiry++ {
			for _, n := range []int{1, most} {
				l := mustNew(t, v(origin, expiry, n))
				mustHave(t, l, v(origin, expiry, n))
				mustExpire(t, l, expiry, 0, v(origin, expiry, n))
				mustExpire(t, l, expiry+1, n)
			}
		}
	}
}

// TestAddArg is of P13.1, Add, and R8: each argument that may not be, alone.
func TestAddArg(t *testing.T) {
	l := mustNew(t, v(5, 9, 10), v(0, 0, 1), v(99, last, 2))
	for _, origin := range wrongOrigins {
		mustRefuse(t, l, origin, last, 1, api.ErrArg)
		mustRefuse(t, l, origin, max(origin, 0), 1, api.ErrArg)
		mustRefuse(t, l, origin, 9, 1, api.ErrArg)
	}
	for _, expiry := range wrongExpiry {
		mustRefuse(t, l, 0, expiry, 1, api.ErrArg)
		mustRefuse(t, l, 5, expiry, 1, api.ErrArg)
	}
	for origin := 1; origin <= api.MaxYear; origin++ {
		mustRefuse(t, l, origin, origin-1, 1, api.ErrArg)
		mustRefuse(t, l, origin, 0, 1, api.ErrArg)
	}
	for _, n := range wrongLoss {
		mustRefuse(t, l, 5, 9, n, api.ErrArg)
		mustRefuse(t, l, 6, 9, n, api.ErrArg)
	}
}

// TestAddOver is of P13.1, Add: the sum of all up to the greatest Money, and not a unit more.
func TestAddOver(t *testing.T) {
	l := mustNew(t, v(5, 9, most-5), v(6, 9, 2))
	for _, n := range []int{4, 5, most - 1, most} {
		mustRefuse(t, l, 5, 9, n, api.ErrOver)
		mustRefuse(t, l, 6, 9, n, api.ErrOver)
		mustRefuse(t, l, 7, 9, n, api.ErrOver)
	}
	same, other := l.Clone(), l.Clone()
	mustAdd(t, same, v(6, 9, 3))
	mustHave(t, same, v(5, 9, most-5), v(6, 9, 5))
	mustAdd(t, other, v(7, 9, 3))
	mustHave(t, other, v(5, 9, most-5), v(6, 9, 2), v(7, 9, 3))
	for _, x := range []*vintage.Losses{same, other} {
		mustRefuse(t, x, 5, 9, 1, api.ErrOver)
		mustRefuse(t, x, 8, 9, 1, api.ErrOver)
	}
}

// TestAddRoom is of P13.1, Add: what was taken, or expired, doesn't count towards the sum any more.
func TestAddRoom(t *testing.T) {
	l := mustNew(t, v(5, 9, 10), v(6, 20, most-10))
	mustTake(t, l, 3, 4)
	mustRefuse(t, l, 6, 20, 8, api.ErrOver)
	mustAdd(t, l, v(6, 20, 7))
	mustExpire(t, l, 10, 7, v(6, 20, most-7))
	mustRefuse(t, l, 5, 9, 8, api.ErrOver)
	mustAdd(t, l, v(5, 9, 7))
	mustHave(t, l, v(5, 9, 7), v(6, 20, most-7))
}

// TestAddLimit is of P13.1, Add: MaxVintages, and not one more; what is there takes more.
func TestAddLimit(t *testing.T) {
	rows := full()
	l := mustNew(t, rows[:api.MaxVintages-1]...)
	mustAdd(t, l, rows[api.MaxVintages-1])
	mustHave(t, l, rows...)
	for _, x := range []api.Vintage{v(0, 0, 1), v(99, last, 1), v(5, 41, 1), v(4, 40, 1), v(7, 40, 1), v(99, 99, 1)} {
		mustRefuse(t, l, x.Origin, x.Expiry, x.Left, api.ErrLimit)
	}
	for i, x := range rows {
		mustAdd(t, l, v(x.Origin, x.Expiry, 100))
		rows[i].Left += 100
		mustHave(t, l, rows...)
	}
	mustRefuse(t, l, 5, 41, 1, api.ErrLimit)
}

// TestAddAfterLimit is of P13.1, Add: what is used up, or expired, makes room for another vintage; what is not, doesn't.
func TestAddAfterLimit(t *testing.T) {
	rows := full()
	used, expired := mustNew(t, rows...), mustNew(t, rows...)
	taken := make([]int, len(rows))
	taken[4] = rows[4].Left - 1
	mustTake(t, used, taken...)
	mustRefuse(t, used, 0, 0, 1, api.ErrLimit)
	taken[4] = 1
	mustTake(t, used, taken...)
	mustAdd(t, used, v(0, 0, 1))
	mustHave(t, used, append([]api.Vintage{v(0, 0, 1)}, slices.Delete(slices.Clone(rows), 4, 5)...)...)
	mustRefuse(t, used, 0, 1, 1, api.ErrLimit)

	mustExpire(t, expired, 40, 0, rows...)
	mustRefuse(t, expired, 0, 0, 1, api.ErrLimit)
	mustExpire(t, expired, 41, 3, rows[2:]...)
	mustAdd(t, expired, v(0, 0, 1), v(99, last, 2))
	mustRefuse(t, expired, 0, 1, 1, api.ErrLimit)
}

// TestAddOrder is of P13.1, Add: ErrArg ahead of ErrOver, and that ahead of ErrLimit.
func TestAddOrder(t *testing.T) {
	l := mustNew(t, full()...)
	mustAdd(t, l, v(5, 40, most-l.Left()))
	mustRefuse(t, l, 0, 0, 1, api.ErrOver) // and there is no room, either
	mustRefuse(t, l, -1, 0, 1, api.ErrArg)
	mustRefuse(t, l, 100, 100, 1, api.ErrArg)
	mustRefuse(t, l, 1, 0, 1, api.ErrArg)
	mustRefuse(t, l, 0, last+1, 1, api.ErrArg)
	mustRefuse(t, l, 0, 0, 0, api.ErrArg)
	mustRefuse(t, l, 0, 0, -1, api.ErrArg)
	mustRefuse(t, l, 0, 0, most+1, api.ErrArg)
	mustTake(t, l, 1, 0, 0, 0, 0, 0, 0, 0, 0, 0, 0, 0)
	mustRefuse(t, l, 0, 0, 1, api.ErrLimit)
	mustRefuse(t, l, 0, 0, 2, api.ErrOver)
	mustRefuse(t, l, 0, 0, 0, api.ErrArg)
}

// TestRows is of P13.1, Rows: by Expiry, then Origin, whatever is left and however they were added.
func TestRows(t *testing.T) {
	rows := []api.Vintage{v(2, 2, 9), v(0, 7, 5), v(3, 7, 1), v(7, 7, 8), v(1, 8, 4), v(8, 8, 2), v(0, 99, 3), v(99, 99, 1), v(0, last, 6), v(50, last, 2)}
	r := rand.New(rand.NewSource(13))
	for range 200 {
		l := vintage.New()
		for _, i := range r.Perm(len(rows)) {
			mustAdd(t, l, rows[i])
		}
		mustHave(t, l, rows...)
	}
}

// TestRowsAreNew is of R4: a list that was handed out is the caller's, and the Losses do not touch it again.
func TestRowsAreNew(t *testing.T) {
	for length := range api.MaxVintages { // with whatever room there is behind a list of this length
		rows := full()[:length]
		l := mustNew(t, rows...)
		list := l.Rows()
		for i := range list {
			list[i] = v(1, 1, 1)
		}
		_ = append(list, v(9, 9, 9))
		_ = append(list[:0], v(8, 8, 8))
		mustHave(t, l, rows...)

		kept := l.Rows()
		mustAdd(t, l, v(0, 0, 7))
		for _, x := range rows {
			mustAdd(t, l, v(x.Origin, x.Expiry, 100))
		}
		used := make([]int, length+1)
		for i := 1; i < length; i += 2 {
			used[i] = l.Rows()[i].Left
		}
		mustTake(t, l, used...)
		l.Expire(last + 1)
		if !slices.Equal(kept, rows) {
			t.Errorf("a list that was handed out became %v; want %v", kept, rows)
		}
	}
}

// TestExpire is of P13.1, Expire: a loss may be used in the year of its expiry, and in no later one.
func TestExpire(t *testing.T) {
	rows := []api.Vintage{v(4, 7, 5), v(3, 9, 20), v(5, 9, 11), v(6, 10, 2), v(0, last, 3)}
	l := mustNew(t, rows...)
	mustExpire(t, l, 0, 0, rows...)
	mustExpire(t, l, 7, 0, rows...)
	mustExpire(t, l, 8, 5, rows[1:]...)
	mustExpire(t, l, 8, 0, rows[1:]...)
	mustExpire(t, l, 9, 0, rows[1:]...)
	mustExpire(t, l, 10, 31, rows[3:]...)
	mustExpire(t, l, 7, 0, rows[3:]...) // an earlier year brings nothing back
	mustExpire(t, l, 11, 2, rows[4:]...)
	mustExpire(t, l, last, 0, rows[4:]...)
	mustExpire(t, l, last+1, 3)
	mustExpire(t, l, last+1, 0)
	mustAdd(t, l, v(4, 7, 1)) // what is expired may be added anew
	mustHave(t, l, v(4, 7, 1))
}

// TestExpireYears is of P13.1, Expire: each year by itself, those that are none, too, and several at once.
func TestExpireYears(t *testing.T) {
	rows := []api.Vintage{v(0, 0, 1), v(4, 7, most-1000), v(3, 9, 20), v(5, 9, 11), v(6, 10, 2), v(98, 99, 7), v(99, 100, 13), v(0, last, 3)}
	years := []int{math.MinInt, math.MinInt + 9, -1 << 32, -1, 1 << 31, 1 << 32, 1<<32 + 5, 1 << 62, math.MaxInt - 1, math.MaxInt}
	for year := range 2 * last {
		years = append(years, year)
	}
	for _, year := range years {
		sum := 0
		var left []api.Vintage
		for _, x := range rows {
			if x.Expiry < year {
				sum += x.Left
			} else {
				left = append(left, x)
			}
		}
		mustExpire(t, mustNew(t, rows...), year, sum, left...)
	}
}

// TestExpireAll is of P13.1, Expire: MaxVintages at once, with all the Money there can be.
func TestExpireAll(t *testing.T) {
	l := mustNew(t, full()...)
	mustAdd(t, l, v(5, 40, most-l.Left()))
	mustExpire(t, l, 91, most)
	mustAdd(t, l, full()...)
	mustHave(t, l, full()...)
}

// TestTake is of P13.1, Take: in the order of Rows; what is used up is gone.
func TestTake(t *testing.T) {
	l := mustNew(t, v(5, 9, 11), v(4, 7, 5), v(0, last, 3), v(3, 9, 20))
	mustTake(t, l, 0, 0, 0, 0)
	mustHave(t, l, v(4, 7, 5), v(3, 9, 20), v(5, 9, 11), v(0, last, 3))
	mustTake(t, l, 1, 2, 3, 0)
	mustHave(t, l, v(4, 7, 4), v(3, 9, 18), v(5, 9, 8), v(0, last, 3))
	mustTake(t, l, 4, 1, 0, 3)
	mustHave(t, l, v(3, 9, 17), v(5, 9, 8))
	mustTake(t, l, 0, 8) // the later one alone
	mustHave(t, l, v(3, 9, 17))
	mustTake(t, l, 17)
	mustHave(t, l)
	mustTake(t, l)
	mustAdd(t, l, v(3, 9, most))
	mustTake(t, l, most-1)
	mustHave(t, l, v(3, 9, 1))
}

// TestTakeEach is of P13.1, Take: each choice of vintages that are used up.
func TestTakeEach(t *testing.T) {
	rows := full()
	for choice := range 1 << len(rows) {
		l := mustNew(t, rows...)
		used := make([]int, len(rows))
		var left []api.Vintage
		for i, x := range rows {
			used[i] = x.Left
			if choice>>i&1 == 0 {
				used[i] /= 2
				left = append(left, v(x.Origin, x.Expiry, x.Left-x.Left/2))
			}
		}
		mustTake(t, l, used...)
		mustHave(t, l, left...)
		if t.Failed() {
			t.FailNow()
		}
	}
}

// TestTakeArg is of P13.1, Take: too few, too many, and each one below 0 or above what is left.
func TestTakeArg(t *testing.T) {
	rows := []api.Vintage{v(4, 7, 5), v(3, 9, 20), v(5, 9, 11), v(0, last, 3)}
	l := mustNew(t, rows...)
	for length := range 20 {
		if length != len(rows) {
			mustKeep(t, l, make([]int, length)...)
			mustKeep(t, l, slices.Repeat([]int{1}, length)...)
		}
	}
	for i, x := range rows {
		for _, n := range []int{-1, -2, -most, math.MinInt, math.MinInt + 1, x.Left + 1, x.Left + 2, most, most + 1, 1 << 32, 1<<32 + 1, 1 << 62, math.MaxInt} {
			for _, other := range []int{0, 1, 3} {
				used := slices.Repeat([]int{other}, len(rows))
				used[i] = n
				mustKeep(t, l, used...)
			}
		}
	}
	mustKeep(t, vintage.New(), 0)
	mustKeep(t, vintage.New(), 1)
	mustTake(t, l, 5, 20, 11, 3)
	mustHave(t, l)
}

// TestTakeNotKept is of R4: the list that was handed in is the caller's, and what lies behind it isn't read or written.
func TestTakeNotKept(t *testing.T) {
	l := mustNew(t, v(4, 7, 5), v(3, 9, 20))
	memory := []int{1, 2, 33, 44}
	if e := l.Take(memory[:2]); e != api.OK {
		t.Error(e)
	}
	if !slices.Equal(memory, []int{1, 2, 33, 44}) {
		t.Errorf("Take wrote %v", memory)
	}
	clear(memory)
	mustHave(t, l, v(4, 7, 4), v(3, 9, 18))
}

// TestClone is of P13.1, Clone, and R4: a copy tells the same, and from then on both go their own ways.
func TestClone(t *testing.T) {
	for length := range api.MaxVintages - 1 { // with whatever room there is behind a list of this length
		rows := full()[:length]
		l := mustNew(t, rows...)
		c := l.Clone()
		mustHave(t, c, rows...)
		mustAdd(t, l, v(99, last-1, 1))
		mustAdd(t, c, v(99, last-1, 2), v(99, last, 3))
		mustHave(t, l, append(slices.Clone(rows), v(99, last-1, 1))...)
		mustHave(t, c, append(slices.Clone(rows), v(99, last-1, 2), v(99, last, 3))...)

		used := make([]int, length+1)
		for i, x := range rows {
			used[i] = x.Left
		}
		mustTake(t, l, used...)
		mustHave(t, l, v(99, last-1, 1))
		mustHave(t, c, append(slices.Clone(rows), v(99, last-1, 2), v(99, last, 3))...)
		d := c.Clone()
		mustExpire(t, c, last, c.Left()-3, v(99, last, 3))
		mustHave(t, d, append(slices.Clone(rows), v(99, last-1, 2), v(99, last, 3))...)
	}
}

// TestCloneFull is of P13.1, Clone: what is full is full in the copy, too, and what makes room in the copy makes it there alone.
func TestCloneFull(t *testing.T) {
	l := mustNew(t, full()...)
	c := l.Clone()
	mustRefuse(t, c, 0, 0, 1, api.ErrLimit)
	mustTake(t, c, 1, 0, 0, 0, 0, 0, 0, 0, 0, 0, 0, 0)
	mustAdd(t, c, v(0, 0, 1))
	mustRefuse(t, l, 0, 0, 1, api.ErrLimit)
	mustHave(t, l, full()...)
}

// plain is the document's words for Losses: what is left of each expiry and origin.
type plain map[[2]int]int

func (p plain) left() int {
	left := 0
	for _, n := range p {
		left += n
	}
	return left
}

func (p plain) rows() []api.Vintage {
	var rows []api.Vintage
	for k, n := range p {
		rows = append(rows, v(k[1], k[0], n))
	}
	slices.SortFunc(rows, func(x, y api.Vintage) int {
		return cmp.Compare(x.Expiry*1000+x.Origin, y.Expiry*1000+y.Origin)
	})
	return rows
}

func (p plain) add(origin, expiry, n int) api.Errno {
	if origin < 0 || origin > 99 || expiry < origin || expiry > 198 || n < 1 || n > 100000000000 {
		return api.ErrArg
	}
	if p.left()+n > 100000000000 {
		return api.ErrOver
	}
	if p[[2]int{expiry, origin}] == 0 && len(p) >= 12 {
		return api.ErrLimit
	}
	p[[2]int{expiry, origin}] += n
	return api.OK
}

func (p plain) expire(year int) int {
	sum := 0
	for k, n := range p {
		if k[0] < year {
			sum += n
			delete(p, k)
		}
	}
	return sum
}

func (p plain) take(used []int) api.Errno {
	rows := p.rows()
	if len(used) != len(rows) {
		return api.ErrArg
	}
	for i, x := range rows {
		if used[i] < 0 || used[i] > x.Left {
			return api.ErrArg
		}
	}
	for i, x := range rows {
		p[[2]int{x.Expiry, x.Origin}] -= used[i]
		if x.Left == used[i] {
			delete(p, [2]int{x.Expiry, x.Origin})
		}
	}
	return api.OK
}

// someUsed returns what may be used of the rows, and now and then what may not.
func someUsed(r *rand.Rand, rows []api.Vintage) []int {
	var used []int
	for _, x := range rows {
		used = append(used, []int{0, 0, 0, 1, x.Left, x.Left / 2, r.Intn(x.Left + 1)}[r.Intn(7)])
	}
	switch {
	case r.Intn(6) == 0:
		used = append(used, 0)
	case len(used) > 0 && r.Intn(6) == 0:
		used = used[1:]
	case len(used) > 0 && r.Intn(6) == 0:
		used[r.Intn(len(used))] = -1
	case len(used) > 0 && r.Intn(6) == 0:
		i := r.Intn(len(used))
		used[i] = rows[i].Left + 1
	}
	return used
}

// TestModel is of P13.1 and R5: runs of adds, takes and expiries over few vintages against the document's words.
func TestModel(t *testing.T) {
	r := rand.New(rand.NewSource(13))
	some := func(l ...int) int { return l[r.Intn(len(l))] }
	seen := map[api.Errno]int{}
	for i := range 300 {
		l, p, great := vintage.New(), plain{}, i%2 == 0 // small ones alone fill the vintages ahead of the sum
		for range 200 {
			var got, want int
			switch r.Intn(12) {
			case 0:
				year := some(-1, 0, 1, 2, 3, 4, 99, 198, 199)
				got, want = l.Expire(year), p.expire(year)
			case 1, 2:
				used := someUsed(r, p.rows())
				e := l.Take(used)
				seen[e]++
				got, want = int(e), int(p.take(used))
			default:
				origin, expiry := some(-1, 0, 0, 1, 2, 2, 3, 98, 99, 100), some(-1, 0, 1, 2, 3, 99, 99, 100, 197, 198, 199)
				n := some(0, -1, 1, 1, 2, 3, 5, 8, 13, 21)
				if great {
					n = some(n, most, most/2, most/3, most-1, most-p.left(), most-p.left()+1, most+1)
				}
				e := l.Add(origin, expiry, n)
				seen[e]++
				got, want = int(e), int(p.add(origin, expiry, n))
			}
			if got != want {
				t.Fatalf("%v: %d; want %d", p.rows(), got, want)
			}
			mustHave(t, l, p.rows()...)
			if t.Failed() {
				t.FailNow()
			}
			if r.Intn(10) == 0 {
				l = l.Clone()
			}
		}
	}
	for _, e := range []api.Errno{api.OK, api.ErrArg, api.ErrOver, api.ErrLimit} {
		if seen[e] < 100 {
			t.Errorf("error %d came up %d times", e, seen[e])
		}
	}
}
