package bucket_test

import (
	"cmp"
	"math"
	"math/rand"
	"slices"
	"testing"

	"scutage/api"
	"scutage/bucket"
)

const most = api.MaxMoney

// wrong numbers of each kind: below 0, beyond what there is, and what goes round.
var (
	common       = []int{-1, -2, -9, -99, math.MinInt, math.MinInt + 1, math.MinInt + 5, 1 << 31, 1 << 32, 1<<32 + 5, 1 << 62, math.MaxInt}
	wrongClasses = append([]int{0, 10, 11, 99, 105}, common...)
	wrongYears   = append([]int{100, 101, 105, 200, 399}, common...)
	wrongMoney   = []int{most + 1, -most - 1, 2 * most, -2 * most, 1 << 40, -(1 << 40), 1 << 62, math.MaxInt, math.MinInt, math.MinInt + 1}
)

func b(class, year, n int) api.Bucket {
	return api.Bucket{Class: class, Year: year, Amount: n}
}

// mustNew returns a Register into which the buckets were moved; each move must be taken.
func mustNew(t *testing.T, buckets ...api.Bucket) *bucket.Register {
	t.Helper()
	r := bucket.New()
	if r == nil {
		t.Fatal("New() = nil")
	}
	mustMove(t, r, buckets...)
	return r
}

func mustMove(t *testing.T, r *bucket.Register, buckets ...api.Bucket) {
	t.Helper()
	for _, x := range buckets {
		if e := r.Move(x.Class, x.Year, x.Amount); e != api.OK {
			t.Fatalf("%v: Move(%v) = %d", r.Rows(), x, e)
		}
	}
}

// mustRefuse holds the error of a move, and that it changed nothing.
func mustRefuse(t *testing.T, r *bucket.Register, class, year, n int, e api.Errno) {
	t.Helper()
	before := r.Rows()
	if got := r.Move(class, year, n); got != e {
		t.Errorf("%v: Move(%d, %d, %d) = %d; want %d", before, class, year, n, got, e)
	}
	mustHave(t, r, before...)
}

func mustReclass(t *testing.T, r *bucket.Register, class, year, class2, year2, n int) {
	t.Helper()
	if e := r.Reclass(class, year, class2, year2, n); e != api.OK {
		t.Fatalf("%v: Reclass(%d, %d, %d, %d, %d) = %d", r.Rows(), class, year, class2, year2, n, e)
	}
}

// mustKeep holds the error of a reclass, and that it changed nothing.
func mustKeep(t *testing.T, r *bucket.Register, class, year, class2, year2, n int, e api.Errno) {
	t.Helper()
	before := r.Rows()
	if got := r.Reclass(class, year, class2, year2, n); got != e {
		t.Errorf("%v: Reclass(%d, %d, %d, %d, %d) = %d; want %d", before, class, year, class2, year2, n, got, e)
	}
	mustHave(t, r, before...)
}

// mustHave holds all that a Register tells: the rows, each by itself, and their sum.
func mustHave(t *testing.T, r *bucket.Register, rows ...api.Bucket) {
	t.Helper()
	if got := r.Rows(); !slices.Equal(got, rows) {
		t.Errorf("Rows() = %v; want %v", got, rows)
	}
	total := 0
	for _, x := range rows {
		mustGet(t, r, x.Class, x.Year, x.Amount)
		total += x.Amount
	}
	if got := r.Total(); got != total {
		t.Errorf("Total() = %d; want %d", got, total)
	}
}

func mustGet(t *testing.T, r *bucket.Register, class, year, n int) {
	t.Helper()
	if got := r.Get(class, year); got != n {
		t.Errorf("%v: Get(%d, %d) = %d; want %d", r.Rows(), class, year, got, n)
	}
}

// full returns MaxBuckets buckets of several classes, in order, with room between, ahead of and behind them.
func full() []api.Bucket {
	var rows []api.Bucket
	for i := range api.MaxBuckets {
		rows = append(rows, b(2+i/2, 10+i*5, i+1))
	}
	return rows
}

// TestNew is of P10.1, New: all buckets are 0, and each Register is another one.
func TestNew(t *testing.T) {
	r, other := mustNew(t), mustNew(t, b(1, 0, 1))
	mustHave(t, r)
	for class := 1; class <= api.MaxClass; class++ {
		for year := range api.MaxYear + 1 {
			mustGet(t, r, class, year, 0)
		}
	}
	mustHave(t, other, b(1, 0, 1))
}

// TestMove is of P10.1, Move: it adds to what is there, and what becomes 0 is no row.
func TestMove(t *testing.T) {
	r := mustNew(t, b(3, 7, 100))
	mustHave(t, r, b(3, 7, 100))
	mustMove(t, r, b(3, 7, 20))
	mustHave(t, r, b(3, 7, 120))
	mustMove(t, r, b(3, 7, -150))
	mustHave(t, r, b(3, 7, -30))
	mustMove(t, r, b(3, 7, 0))
	mustHave(t, r, b(3, 7, -30))
	mustMove(t, r, b(3, 8, 5), b(4, 7, 6))
	mustHave(t, r, b(3, 7, -30), b(3, 8, 5), b(4, 7, 6))
	mustMove(t, r, b(3, 7, 30))
	mustHave(t, r, b(3, 8, 5), b(4, 7, 6))
	mustMove(t, r, b(4, 7, -6), b(3, 8, -5))
	mustHave(t, r)
	mustGet(t, r, 3, 7, 0)
}

// TestMoveNothing is of P10.1, Move: 0 is Money, and makes no row.
func TestMoveNothing(t *testing.T) {
	r := mustNew(t, b(1, 0, 0), b(9, 99, 0), b(5, 5, 0))
	mustHave(t, r)
	r = mustNew(t, full()...)
	mustMove(t, r, b(1, 0, 0), b(9, 99, 0), b(2, 10, 0))
	mustHave(t, r, full()...)
}

// TestMoveAll is of P10.1, Move: every class and every year, and the greatest amounts.
func TestMoveAll(t *testing.T) {
	for class := 1; class <= api.MaxClass; class++ {
		for year := range api.MaxYear + 1 {
			for _, n := range []int{1, -1, most, -most} {
				r := mustNew(t, b(class, year, n))
				mustHave(t, r, b(class, year, n))
				mustGet(t, r, class-1, year, 0)
				mustGet(t, r, class+1, year, 0)
				mustGet(t, r, class, year-1, 0)
				mustGet(t, r, class, year+1, 0)
				mustGet(t, r, class-1, year+100, 0)
				mustGet(t, r, class+1, year-100, 0)
				mustMove(t, r, b(class, year, -n))
				mustHave(t, r)
			}
		}
	}
}

// TestMoveArg is of P10.1, Move, and R8: each argument that may not be, alone, and with an n of 0.
func TestMoveArg(t *testing.T) {
	r := mustNew(t, b(1, 5, 6), b(2, 0, 7), b(9, 99, 8))
	for _, class := range wrongClasses {
		mustRefuse(t, r, class, 5, 1, api.ErrArg)
		mustRefuse(t, r, class, 5, 0, api.ErrArg)
	}
	for _, year := range wrongYears {
		mustRefuse(t, r, 1, year, 1, api.ErrArg)
		mustRefuse(t, r, 1, year, 0, api.ErrArg)
	}
	for _, n := range wrongMoney {
		mustRefuse(t, r, 1, 5, n, api.ErrArg)
		mustRefuse(t, r, 4, 4, n, api.ErrArg)
	}
}

// TestMoveOver is of P10.1, Move: the bucket by itself, up to the greatest and the least Money.
func TestMoveOver(t *testing.T) {
	for _, sign := range []int{1, -1} {
		// The other bucket keeps the sum of all far from its bounds.
		r := mustNew(t, b(1, 1, -sign*most/2), b(2, 2, sign*(most-3)))
		mustRefuse(t, r, 2, 2, sign*4, api.ErrOver)
		mustRefuse(t, r, 2, 2, sign*most, api.ErrOver)
		mustMove(t, r, b(2, 2, sign*3))
		mustHave(t, r, b(1, 1, -sign*most/2), b(2, 2, sign*most))
		mustRefuse(t, r, 2, 2, sign, api.ErrOver)
		mustMove(t, r, b(2, 2, -sign*most))
		mustMove(t, r, b(2, 2, sign*most))
	}
}

// TestMoveOverTotal is of P10.1, Move: the sum of all, where each bucket is Money.
func TestMoveOverTotal(t *testing.T) {
	for _, sign := range []int{1, -1} {
		r := mustNew(t, b(1, 1, sign*(most-5)), b(2, 2, sign*2))
		mustRefuse(t, r, 2, 2, sign*4, api.ErrOver)
		mustRefuse(t, r, 3, 3, sign*4, api.ErrOver)
		mustRefuse(t, r, 3, 3, sign*most, api.ErrOver)
		mustMove(t, r, b(3, 3, sign*3))
		mustHave(t, r, b(1, 1, sign*(most-5)), b(2, 2, sign*2), b(3, 3, sign*3))
		mustRefuse(t, r, 4, 4, sign, api.ErrOver)
		mustMove(t, r, b(4, 4, -sign*most)) // room on the other side
		mustMove(t, r, b(5, 5, sign*most))
		mustRefuse(t, r, 6, 6, sign, api.ErrOver)
		mustMove(t, r, b(6, 6, -sign*most), b(7, 7, -sign*most))
		mustRefuse(t, r, 8, 8, -sign, api.ErrOver)
	}
}

// TestMoveLimit is of P10.1, Move: MaxBuckets buckets that are not 0, of one class or of many, and no more.
func TestMoveLimit(t *testing.T) {
	r := mustNew(t, full()...)
	mustHave(t, r, full()...)
	for _, x := range []api.Bucket{b(1, 0, 1), b(9, 99, -1), b(2, 11, 1), b(2, 9, 1), b(4, 99, 1), b(7, 61, -1)} {
		mustRefuse(t, r, x.Class, x.Year, x.Amount, api.ErrLimit)
	}
	mustMove(t, r, b(2, 10, 5)) // one that is there already
	mustMove(t, r, b(2, 10, -6))
	mustHave(t, r, full()[1:]...)
	mustMove(t, r, b(9, 99, -1)) // in the room that it left
	mustHave(t, r, append(full()[1:], b(9, 99, -1))...)
	mustRefuse(t, r, 2, 10, 1, api.ErrLimit)

	one := bucket.New()
	for year := range api.MaxBuckets {
		mustMove(t, one, b(1, year, -1))
	}
	mustRefuse(t, one, 1, api.MaxBuckets, 1, api.ErrLimit)
}

// TestMoveErrorOrder is of P10.1, Move, and R2: of errors that apply together, the first.
func TestMoveErrorOrder(t *testing.T) {
	r := mustNew(t, full()...)
	mustMove(t, r, b(2, 10, most-r.Total()))
	mustRefuse(t, r, 1, 0, -1, api.ErrLimit)
	mustRefuse(t, r, 1, 0, 1, api.ErrOver) // not ErrLimit
	mustRefuse(t, r, 1, 0, most, api.ErrOver)
	mustRefuse(t, r, 0, 0, 1, api.ErrArg) // neither ErrOver nor ErrLimit
	mustRefuse(t, r, 10, 0, 1, api.ErrArg)
	mustRefuse(t, r, 1, -1, 1, api.ErrArg)
	mustRefuse(t, r, 1, 100, 1, api.ErrArg)
	mustRefuse(t, r, 1, 0, most+1, api.ErrArg)
	mustRefuse(t, r, 1, 0, -most-1, api.ErrArg)
}

// TestReclass is of P10.1, Reclass: from the first into the second, or back, whether they were 0 or not.
func TestReclass(t *testing.T) {
	r := mustNew(t, b(3, 7, 100))
	mustReclass(t, r, 3, 7, 3, 6, 30) // another year
	mustHave(t, r, b(3, 6, 30), b(3, 7, 70))
	mustReclass(t, r, 3, 7, 5, 7, 70) // another class; the first becomes 0
	mustHave(t, r, b(3, 6, 30), b(5, 7, 70))
	mustReclass(t, r, 3, 6, 5, 7, -20) // back
	mustHave(t, r, b(3, 6, 50), b(5, 7, 50))
	mustReclass(t, r, 5, 7, 3, 6, 80) // beyond 0
	mustHave(t, r, b(3, 6, 130), b(5, 7, -30))
	mustReclass(t, r, 1, 0, 9, 99, 4) // both were 0
	mustHave(t, r, b(1, 0, -4), b(3, 6, 130), b(5, 7, -30), b(9, 99, 4))
	mustReclass(t, r, 9, 99, 1, 0, 4) // both become 0
	mustHave(t, r, b(3, 6, 130), b(5, 7, -30))
	mustReclass(t, r, 5, 7, 3, 6, -30) // the first becomes 0, as it was below
	mustHave(t, r, b(3, 6, 100))
	mustReclass(t, r, 1, 1, 3, 6, -100) // the second becomes 0
	mustHave(t, r, b(1, 1, 100))
}

// TestReclassNothing is of P10.1, Reclass: 0 is Money, and changes nothing.
func TestReclassNothing(t *testing.T) {
	r := mustNew(t, full()...)
	mustReclass(t, r, 2, 10, 2, 15, 0)
	mustReclass(t, r, 2, 10, 1, 0, 0)
	mustReclass(t, r, 9, 99, 1, 0, 0)
	mustHave(t, r, full()...)
}

// TestReclassArg is of P10.1, Reclass, and R8: each argument that may not be, alone, and with an n of 0.
func TestReclassArg(t *testing.T) {
	r := mustNew(t, b(1, 5, 6), b(2, 0, 7), b(9, 99, 8))
	for _, n := range []int{0, 1, -1} {
		for _, class := range wrongClasses {
			mustKeep(t, r, class, 5, 2, 0, n, api.ErrArg)
			mustKeep(t, r, 2, 0, class, 5, n, api.ErrArg)
			mustKeep(t, r, class, 5, class, 5, n, api.ErrArg)
			mustKeep(t, r, class, 5, class, 6, n, api.ErrArg)
		}
		for _, year := range wrongYears {
			mustKeep(t, r, 1, year, 2, 0, n, api.ErrArg)
			mustKeep(t, r, 2, 0, 1, year, n, api.ErrArg)
			mustKeep(t, r, 1, year, 1, year, n, api.ErrArg)
			mustKeep(t, r, 1, year, 2, year, n, api.ErrArg)
		}
	}
	for _, n := range wrongMoney {
		mustKeep(t, r, 1, 5, 2, 0, n, api.ErrArg)
		mustKeep(t, r, 4, 4, 5, 5, n, api.ErrArg)
	}
}

// TestReclassSame is of P10.1, Reclass: both are the same bucket, whether it is 0 or not.
func TestReclassSame(t *testing.T) {
	r := mustNew(t, b(1, 5, 6), b(5, 1, 7))
	for _, n := range []int{0, 1, -1, 6, most, -most} {
		for class := 1; class <= api.MaxClass; class++ {
			for _, year := range []int{0, 1, 5, 99} {
				mustKeep(t, r, class, year, class, year, n, api.ErrArg)
			}
		}
	}
	mustReclass(t, r, 1, 5, 5, 1, 6) // class and year exchanged are another bucket
	mustHave(t, r, b(5, 1, 13))
}

// TestReclassOver is of P10.1, Reclass: each of the two, up to the greatest and the least Money.
func TestReclassOver(t *testing.T) {
	for _, sign := range []int{1, -1} {
		r := mustNew(t, b(1, 1, -sign*(most-3)), b(2, 2, sign))
		mustKeep(t, r, 1, 1, 2, 2, sign*4, api.ErrOver) // the first
		mustKeep(t, r, 2, 2, 1, 1, -sign*4, api.ErrOver)
		mustKeep(t, r, 1, 1, 3, 3, sign*most, api.ErrOver)
		mustReclass(t, r, 1, 1, 2, 2, sign*3)
		mustHave(t, r, b(1, 1, -sign*most), b(2, 2, sign*4))
		mustKeep(t, r, 1, 1, 2, 2, sign, api.ErrOver)

		r = mustNew(t, b(1, 1, sign), b(2, 2, sign*(most-3)))
		mustKeep(t, r, 1, 1, 2, 2, sign*4, api.ErrOver) // the second
		mustKeep(t, r, 2, 2, 1, 1, -sign*4, api.ErrOver)
		mustKeep(t, r, 3, 3, 2, 2, sign*most, api.ErrOver)
		mustReclass(t, r, 1, 1, 2, 2, sign*3)
		mustHave(t, r, b(1, 1, -sign*2), b(2, 2, sign*most))
		mustKeep(t, r, 1, 1, 2, 2, sign, api.ErrOver)

		r = mustNew(t, b(1, 1, -sign*most), b(2, 2, sign*most))
		mustKeep(t, r, 1, 1, 2, 2, sign, api.ErrOver) // both
		mustReclass(t, r, 1, 1, 2, 2, -sign*most)
		mustHave(t, r)
		mustReclass(t, r, 1, 1, 2, 2, sign*most)
		mustHave(t, r, b(1, 1, -sign*most), b(2, 2, sign*most))
	}
}

// TestReclassTotal is of P10.1, Reclass: the sum of all stays, so one at its bounds refuses nothing.
func TestReclassTotal(t *testing.T) {
	for _, sign := range []int{1, -1} {
		r := mustNew(t, b(1, 1, sign*(most-9)), b(2, 2, sign*9))
		mustReclass(t, r, 1, 1, 2, 2, 5)
		mustReclass(t, r, 1, 1, 2, 2, -5)
		mustReclass(t, r, 3, 3, 4, 4, most)
		mustReclass(t, r, 5, 5, 6, 6, -most)
		mustHave(t, r, b(1, 1, sign*(most-9)), b(2, 2, sign*9), b(3, 3, -most), b(4, 4, most), b(5, 5, most), b(6, 6, -most))
	}
}

// TestReclassLimit is of P10.1, Reclass: what counts is how many buckets there are after both changes.
func TestReclassLimit(t *testing.T) {
	r := mustNew(t, full()...)
	mustKeep(t, r, 2, 10, 9, 99, 2, api.ErrLimit) // the second is one more
	mustKeep(t, r, 9, 99, 2, 10, 2, api.ErrLimit) // the first is
	mustKeep(t, r, 9, 99, 1, 0, 1, api.ErrLimit)  // both are
	mustReclass(t, r, 2, 10, 2, 15, 3)            // none is
	mustReclass(t, r, 2, 10, 2, 15, -3)
	mustHave(t, r, full()...)

	mustReclass(t, r, 2, 10, 9, 99, 1) // one goes, one comes
	mustHave(t, r, append(full()[1:], b(9, 99, 1))...)
	mustReclass(t, r, 2, 10, 9, 99, -1) // the same, where the first comes
	mustHave(t, r, full()...)

	r = mustNew(t, full()[1:]...)
	mustKeep(t, r, 9, 99, 1, 0, 1, api.ErrLimit) // one more than there is room for
	mustReclass(t, r, 2, 15, 9, 99, 1)
	mustHave(t, r, append(append([]api.Bucket{b(2, 15, 1)}, full()[2:]...), b(9, 99, 1))...)
	mustKeep(t, r, 2, 15, 1, 0, 2, api.ErrLimit)

	r = mustNew(t, full()[2:]...)
	mustReclass(t, r, 9, 99, 1, 0, 1)
	mustHave(t, r, append(append([]api.Bucket{b(1, 0, 1)}, full()[2:]...), b(9, 99, -1))...)
}

// TestReclassErrorOrder is of P10.1, Reclass, and R2: of errors that apply together, the first.
func TestReclassErrorOrder(t *testing.T) {
	r := mustNew(t, full()...)
	mustMove(t, r, b(2, 10, most-r.Total()))
	mustKeep(t, r, 2, 10, 9, 99, 1, api.ErrLimit)
	mustKeep(t, r, 2, 10, 9, 99, -most, api.ErrOver) // not ErrLimit
	mustKeep(t, r, 9, 99, 2, 10, most, api.ErrOver)
	mustKeep(t, r, 2, 10, 0, 99, -most, api.ErrArg) // neither ErrOver nor ErrLimit
	mustKeep(t, r, 2, 10, 9, 100, -most, api.ErrArg)
	mustKeep(t, r, 10, 10, 9, 99, -most, api.ErrArg)
	mustKeep(t, r, 2, -1, 9, 99, -most, api.ErrArg)
	mustKeep(t, r, 2, 10, 9, 99, -most-1, api.ErrArg)
	mustKeep(t, r, 2, 10, 2, 10, most, api.ErrArg)
}

// TestRefusedTakesNoRoom is of R2: what was refused does not count towards MaxBuckets, nor towards the sum.
func TestRefusedTakesNoRoom(t *testing.T) {
	r := bucket.New()
	for _, x := range full() {
		mustRefuse(t, r, x.Class, 100, 1, api.ErrArg)
		mustKeep(t, r, x.Class, x.Year, x.Class, x.Year, 1, api.ErrArg)
		if r.Total() > 0 {
			mustRefuse(t, r, x.Class, x.Year, most, api.ErrOver)
			mustKeep(t, r, 2, 10, 1, x.Year, -most, api.ErrOver)
		}
		mustMove(t, r, x)
	}
	mustHave(t, r, full()...)
	mustRefuse(t, r, 9, 99, 1, api.ErrLimit)
	mustKeep(t, r, 2, 15, 9, 99, 1, api.ErrLimit)
	mustMove(t, r, b(2, 10, most-r.Total()))
}

// TestGet is of P10.1, Get, and R8: what is no bucket is 0, whatever is beside it.
func TestGet(t *testing.T) {
	r := mustNew(t, b(1, 0, 1), b(1, 99, 2), b(2, 0, 3), b(9, 0, 4), b(9, 99, 5))
	for _, year := range append([]int{0, 5, 99}, wrongYears...) {
		for _, class := range wrongClasses {
			mustGet(t, r, class, year, 0)
		}
	}
	for _, class := range []int{1, 2, 9} {
		for _, year := range wrongYears {
			mustGet(t, r, class, year, 0)
		}
	}
	mustGet(t, r, 1, 1, 0)
	mustGet(t, r, 2, 99, 0)
	mustGet(t, r, 5, 0, 0)
	mustHave(t, r, b(1, 0, 1), b(1, 99, 2), b(2, 0, 3), b(9, 0, 4), b(9, 99, 5))
}

// TestRows is of P10.1, Rows: by Class, then Year, whatever the amounts and the order of the moves.
func TestRows(t *testing.T) {
	rows := []api.Bucket{b(1, 0, 5), b(1, 99, -7), b(2, 3, 1), b(2, 20, 9), b(9, 0, -2), b(9, 1, 4)}
	r := rand.New(rand.NewSource(10))
	for range 100 {
		x := bucket.New()
		for _, i := range r.Perm(len(rows)) {
			mustMove(t, x, rows[i])
		}
		mustHave(t, x, rows...)
		i := r.Intn(len(rows))
		mustMove(t, x, b(rows[i].Class, rows[i].Year, -rows[i].Amount))
		mustHave(t, x, slices.Delete(slices.Clone(rows), i, i+1)...)
	}
}

// TestRowsAreNew is of R4: a list that was handed out is the caller's, and the Register does not touch it again.
func TestRowsAreNew(t *testing.T) {
	for length := range 10 { // with whatever room there is behind a list of this length
		rows := full()[:length]
		r := mustNew(t, rows...)
		list := r.Rows()
		for i := range list {
			list[i] = b(1, 1, 1)
		}
		_ = append(list, b(9, 9, 9))
		mustHave(t, r, rows...)

		kept := r.Rows()
		mustMove(t, r, b(1, 1, 7))
		for _, x := range rows {
			mustMove(t, r, b(x.Class, x.Year, 100))
			mustReclass(t, r, x.Class, x.Year, 1, 1, 100+x.Amount)
		}
		if !slices.Equal(kept, rows) {
			t.Errorf("a list that was handed out became %v", kept)
		}
	}
}

// TestClone is of P10.1, Clone, and R4: a copy tells the same, and from then on both go their own ways.
func TestClone(t *testing.T) {
	for length := range 10 { // with whatever room there is behind a list of this length
		rows := full()[:length]
		r := mustNew(t, rows...)
		c := r.Clone()
		mustHave(t, c, rows...)
		mustMove(t, r, b(9, 98, 1))
		mustMove(t, c, b(9, 98, 2), b(9, 99, 3))
		for _, x := range rows {
			mustMove(t, c, b(x.Class, x.Year, 100))
		}
		mustHave(t, r, append(slices.Clone(rows), b(9, 98, 1))...)
		for _, x := range rows {
			mustReclass(t, r, x.Class, x.Year, 9, 98, x.Amount)
			mustGet(t, c, x.Class, x.Year, x.Amount+100)
		}
		mustGet(t, c, 9, 98, 2)
		mustGet(t, c, 9, 99, 3)
		mustGet(t, r, 9, 99, 0)
	}
}

// TestCloneFull is of P10.1, Clone: what is full is full in the copy, too, and what makes room in the copy makes it there alone.
func TestCloneFull(t *testing.T) {
	r := mustNew(t, full()...)
	c := r.Clone()
	mustRefuse(t, c, 1, 0, 1, api.ErrLimit)
	mustMove(t, c, b(2, 10, -1), b(1, 0, 1))
	mustRefuse(t, r, 1, 0, 1, api.ErrLimit)
	mustHave(t, r, full()...)
}

// plain is the document's words for a Register: a number for each bucket that is not 0.
type plain map[[2]int]int

func (p plain) total() int {
	total := 0
	for _, n := range p {
		total += n
	}
	return total
}

func (p plain) rows() []api.Bucket {
	var rows []api.Bucket
	for k, n := range p {
		rows = append(rows, b(k[0], k[1], n))
	}
	slices.SortFunc(rows, func(x, y api.Bucket) int {
		return cmp.Compare(x.Class*1000+x.Year, y.Class*1000+y.Year)
	})
	return rows
}

// with returns the numbers after changes, whatever they come to.
func (p plain) with(changes ...api.Bucket) plain {
	next := plain{}
	for k, n := range p {
		next[k] = n
	}
	for _, x := range changes {
		next[[2]int{x.Class, x.Year}] += x.Amount
	}
	for k, n := range next {
		if n == 0 {
			delete(next, k)
		}
	}
	return next
}

func money(n int) bool {
	return -most <= n && n <= most
}

// judged returns the error of what p became by moving n in the buckets of the changes.
func (p plain) judged(n int, changes ...api.Bucket) api.Errno {
	for _, x := range changes {
		if x.Class < 1 || x.Class > 9 || x.Year < 0 || x.Year > 99 || !money(n) {
			return api.ErrArg
		}
	}
	for _, x := range changes {
		if !money(p[[2]int{x.Class, x.Year}]) {
			return api.ErrOver
		}
	}
	if !money(p.total()) {
		return api.ErrOver
	}
	if len(p) > 12 {
		return api.ErrLimit
	}
	return api.OK
}

func (p plain) move(x api.Bucket) (plain, api.Errno) {
	next := p.with(x)
	if e := next.judged(x.Amount, x); e != api.OK {
		return p, e
	}
	return next, api.OK
}

func (p plain) reclass(x api.Bucket, class2, year2 int) (plain, api.Errno) {
	if x.Class == class2 && x.Year == year2 {
		return p, api.ErrArg
	}
	from, to := b(x.Class, x.Year, -x.Amount), b(class2, year2, x.Amount)
	next := p.with(from, to)
	if e := next.judged(x.Amount, from, to); e != api.OK {
		return p, e
	}
	return next, api.OK
}

// TestModel is of P10.1 and R5: runs of moves and reclasses over few buckets against the document's words.
func TestModel(t *testing.T) {
	r := rand.New(rand.NewSource(10))
	some := func(l ...int) int { return l[r.Intn(len(l))] }
	class := func() int { return some(0, 1, 1, 2, 2, 3, 8, 9, 9, 10) }
	year := func() int { return some(-1, 0, 0, 1, 2, 98, 99, 99, 100) }
	seen := map[api.Errno]int{}
	for range 400 {
		x, p := bucket.New(), plain{}
		for range 150 {
			n := some(0, 1, -1, 2, -2, 3, -3, most, -most, most-1, 1-most, most/2, -most/2, most+1)
			from, class2, year2 := b(class(), year(), n), class(), year()
			if r.Intn(4) == 0 { // to 0, more often than by chance
				from.Amount = p[[2]int{from.Class, from.Year}] * some(1, -1)
			}
			var got, want api.Errno
			if r.Intn(2) == 0 {
				got = x.Move(from.Class, from.Year, from.Amount)
				p, want = p.move(from)
			} else {
				got = x.Reclass(from.Class, from.Year, class2, year2, from.Amount)
				p, want = p.reclass(from, class2, year2)
			}
			if got != want {
				t.Fatalf("%v: %v, %d, %d: %d; want %d", p.rows(), from, class2, year2, got, want)
			}
			seen[got]++
			mustHave(t, x, p.rows()...)
			mustGet(t, x, class2, year2, p[[2]int{class2, year2}])
			if t.Failed() {
				t.FailNow()
			}
			if r.Intn(10) == 0 {
				x = x.Clone()
			}
		}
	}
	for _, e := range []api.Errno{api.OK, api.ErrArg, api.ErrOver, api.ErrLimit} {
		if seen[e] < 100 {
			t.Errorf("error %d came up %d times", e, seen[e])
		}
	}
}
