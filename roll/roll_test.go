package roll_test

import (
	"cmp"
	"math"
	"math/rand"
	"slices"
	"testing"

	"scutage/api"
	"scutage/bucket"
	"scutage/roll"
)

const most = api.MaxMoney

func b(class, year, n int) api.Bucket {
	return api.Bucket{Class: class, Year: year, Amount: n}
}

func row(class, year, opening, movement, closing int) roll.Row {
	return roll.Row{Class: class, Year: year, Opening: opening, Movement: movement, Closing: closing}
}

// mustRoll holds all that is told of two lists: the rows, and the sum of their movements.
func mustRoll(t *testing.T, opening, closing []api.Bucket, rows ...roll.Row) {
	t.Helper()
	if got := roll.Forward(opening, closing); !slices.Equal(got, rows) {
		t.Errorf("Forward(%v, %v) = %v; want %v", opening, closing, got, rows)
	}
	moved := 0
	for _, x := range rows {
		moved += x.Movement
	}
	if got := roll.Moved(opening, closing); got != moved {
		t.Errorf("Moved(%v, %v) = %d; want %d", opening, closing, got, moved)
	}
}

func mustSum(t *testing.T, rows []roll.Row, classes ...roll.Row) {
	t.Helper()
	if got := roll.Classes(rows...); !slices.Equal(got, classes) {
		t.Errorf("Classes(%v) = %v; want %v", rows, got, classes)
	}
}

// TestForward is of P11.1, Forward: what is in one list alone, on either side, and what is in both.
func TestForward(t *testing.T) {
	mustRoll(t, []api.Bucket{b(3, 7, 100)}, nil, row(3, 7, 100, -100, 0))
	mustRoll(t, nil, []api.Bucket{b(3, 7, 100)}, row(3, 7, 0, 100, 100))
	mustRoll(t, []api.Bucket{b(3, 7, 100)}, []api.Bucket{b(3, 7, 120)}, row(3, 7, 100, 20, 120))
	mustRoll(t, []api.Bucket{b(3, 7, 100)}, []api.Bucket{b(3, 7, -30)}, row(3, 7, 100, -130, -30))
	mustRoll(t, []api.Bucket{b(3, 7, -100)}, []api.Bucket{b(3, 7, -30)}, row(3, 7, -100, 70, -30))
	mustRoll(t,
		[]api.Bucket{b(1, 0, 5), b(2, 3, -4), b(9, 99, 7)},
		[]api.Bucket{b(1, 0, 6), b(2, 3, 2), b(9, 99, 1)},
		row(1, 0, 5, 1, 6), row(2, 3, -4, 6, 2), row(9, 99, 7, -6, 1))
	mustRoll(t,
		[]api.Bucket{b(1, 0, 5), b(2, 3, -4), b(9, 98, 7)},
		[]api.Bucket{b(1, 1, 6), b(2, 3, 2), b(2, 4, 8), b(9, 99, 1)},
		row(1, 0, 5, -5, 0), row(1, 1, 0, 6, 6), row(2, 3, -4, 6, 2), row(2, 4, 0, 8, 8),
		row(9, 98, 7, -7, 0), row(9, 99, 0, 1, 1))
}

// TestForwardUnmoved is of P11.1, Forward: a bucket that did not move has its row, too.
func TestForwardUnmoved(t *testing.T) {
	rows := []api.Bucket{b(1, 5, -4), b(1, 6, 3), b(2, 5, most)}
	mustRoll(t, rows, rows, row(1, 5, -4, 0, -4), row(1, 6, 3, 0, 3), row(2, 5, most, 0, most))
	mustRoll(t, rows[:2], rows[1:], row(1, 5, -4, 4, 0), row(1, 6, 3, 0, 3), row(2, 5, 0, most, most))
}

// TestForwardNothing is of P11.1, Forward and Moved, and R4: empty lists, nil or not.
func TestForwardNothing(t *testing.T) {
	lists := [][]api.Bucket{nil, {}, make([]api.Bucket, 0, 3)}
	for _, opening := range lists {
		for _, closing := range lists {
			mustRoll(t, opening, closing)
		}
		mustRoll(t, opening, []api.Bucket{b(1, 1, 1)}, row(1, 1, 0, 1, 1))
		mustRoll(t, []api.Bucket{b(1, 1, 1)}, opening, row(1, 1, 1, -1, 0))
	}
}

// TestForwardOrder is of P11.1, Forward: by Class, then Year, whichever list a bucket is in and whatever its amount.
func TestForwardOrder(t *testing.T) {
	mustRoll(t, []api.Bucket{b(1, 99, 1)}, []api.Bucket{b(2, 0, 1)}, row(1, 99, 1, -1, 0), row(2, 0, 0, 1, 1))
	mustRoll(t, []api.Bucket{b(2, 0, 1)}, []api.Bucket{b(1, 99, 1)}, row(1, 99, 0, 1, 1), row(2, 0, 1, -1, 0))
	mustRoll(t, []api.Bucket{b(4, 9, 1)}, []api.Bucket{b(4, 10, -1)}, row(4, 9, 1, -1, 0), row(4, 10, 0, -1, -1))
	mustRoll(t, []api.Bucket{b(4, 10, 1)}, []api.Bucket{b(4, 9, -1)}, row(4, 9, 0, -1, -1), row(4, 10, 1, -1, 0))
	mustRoll(t, []api.Bucket{b(5, 4, 1)}, []api.Bucket{b(4, 5, 1)}, row(4, 5, 0, 1, 1), row(5, 4, 1, -1, 0))
	mustRoll(t,
		[]api.Bucket{b(3, 3, 1), b(3, 4, 1)},
		[]api.Bucket{b(1, 1, 1), b(1, 2, 1), b(3, 1, 1), b(8, 0, 1), b(8, 1, 1)},
		row(1, 1, 0, 1, 1), row(1, 2, 0, 1, 1), row(3, 1, 0, 1, 1),
		row(3, 3, 1, -1, 0), row(3, 4, 1, -1, 0), row(8, 0, 0, 1, 1), row(8, 1, 0, 1, 1))
}

// TestForwardGreat is of P11.1, Forward and Moved, and R6: a movement may be beyond Money, and so may their sum.
func TestForwardGreat(t *testing.T) {
	mustRoll(t, []api.Bucket{b(1, 0, -most)}, []api.Bucket{b(1, 0, most)}, row(1, 0, -most, 2*most, most))
	mustRoll(t, []api.Bucket{b(9, 99, most)}, []api.Bucket{b(9, 99, -most)}, row(9, 99, most, -2*most, -most))
	var opening, closing []api.Bucket
	var rows []roll.Row
	for year := range api.MaxBuckets {
		opening = append(opening, b(1, year, -most))
		closing = append(closing, b(1, year, most))
		rows = append(rows, row(1, year, -most, 2*most, most))
	}
	mustRoll(t, opening, closing, rows...)
}

// TestForwardFull is of P11.1, Forward: two lists of MaxBuckets with no bucket in common, side by side or one behind the other.
func TestForwardFull(t *testing.T) {
	var low, high, even, odd []api.Bucket
	var apart, mixed []roll.Row
	for i := range 2 * api.MaxBuckets {
		x := b(1+i/3, 10+i%3, i+1)
		if i < api.MaxBuckets {
			low = append(low, x)
			apart = append(apart, row(x.Class, x.Year, x.Amount, -x.Amount, 0))
		} else {
			high = append(high, x)
			apart = append(apart, row(x.Class, x.Year, 0, x.Amount, x.Amount))
		}
		if i%2 == 0 {
			even = append(even, x)
			mixed = append(mixed, row(x.Class, x.Year, x.Amount, -x.Amount, 0))
		} else {
			odd = append(odd, x)
			mixed = append(mixed, row(x.Class, x.Year, 0, x.Amount, x.Amount))
		}
	}
	mustRoll(t, low, high, apart...)
	mustRoll(t, even, odd, mixed...)
	mustRoll(t, high, low, exchanged(apart)...)
	mustRoll(t, odd, even, exchanged(mixed)...)
}

// exchanged returns the rows of the way back.
func exchanged(rows []roll.Row) []roll.Row {
	var back []roll.Row
	for _, x := range rows {
		back = append(back, row(x.Class, x.Year, x.Closing, -x.Movement, x.Opening))
	}
	return back
}

// TestForwardEach is of P11.1, Forward: every bucket that there is.
func TestForwardEach(t *testing.T) {
	for class := 1; class <= api.MaxClass; class++ {
		for year := range api.MaxYear + 1 {
			x := b(class, year, 7)
			mustRoll(t, []api.Bucket{x}, nil, row(class, year, 7, -7, 0))
			mustRoll(t, nil, []api.Bucket{x}, row(class, year, 0, 7, 7))
			mustRoll(t, []api.Bucket{x}, []api.Bucket{b(class, year, -2)}, row(class, year, 7, -9, -2))
		}
	}
}

// TestMoved is of P11.1, Moved: closing minus opening, in all; 0 where the movements come to 0.
func TestMoved(t *testing.T) {
	for _, x := range []struct {
		opening, closing []api.Bucket
		moved            int
	}{
		{nil, nil, 0},
		{[]api.Bucket{b(1, 1, 5)}, nil, -5},
		{nil, []api.Bucket{b(1, 1, 5)}, 5},
		{[]api.Bucket{b(1, 1, 5)}, []api.Bucket{b(1, 1, 5)}, 0},
		{[]api.Bucket{b(1, 1, 5)}, []api.Bucket{b(1, 2, 5)}, 0},
		{[]api.Bucket{b(1, 1, 5)}, []api.Bucket{b(2, 1, 8)}, 3},
		{[]api.Bucket{b(1, 1, 5), b(2, 2, -9)}, []api.Bucket{b(1, 1, -5), b(2, 2, 4), b(3, 3, 100)}, 103},
		{[]api.Bucket{b(1, 1, most)}, []api.Bucket{b(2, 1, -most)}, -2 * most},
	} {
		if got := roll.Moved(x.opening, x.closing); got != x.moved {
			t.Errorf("Moved(%v, %v) = %d; want %d", x.opening, x.closing, got, x.moved)
		}
		if got := roll.Moved(x.closing, x.opening); got != -x.moved {
			t.Errorf("Moved(%v, %v) = %d; want %d", x.closing, x.opening, got, -x.moved)
		}
	}
}

// TestClasses is of P11.1, Classes: the sum of each number by itself, ascending, with Year -1.
func TestClasses(t *testing.T) {
	mustSum(t, []roll.Row{row(3, 7, 1, 2, 3)}, row(3, -1, 1, 2, 3))
	mustSum(t, []roll.Row{row(3, 7, 1, 2, 3), row(3, 8, 10, 20, 30), row(3, 9, -100, -200, -300)}, row(3, -1, -89, -178, -267))
	mustSum(t,
		[]roll.Row{row(1, 0, 5, -5, 0), row(1, 99, 1, 6, 7), row(2, 0, 0, 4, 4), row(9, 3, -1, 1, 0), row(9, 4, -2, 0, -2)},
		row(1, -1, 6, 1, 7), row(2, -1, 0, 4, 4), row(9, -1, -3, 1, -2))
}

// TestClassesNothing is of P11.1, Classes: no rows have no classes.
func TestClassesNothing(t *testing.T) {
	mustSum(t, nil)
	mustSum(t, []roll.Row{})
	mustSum(t, []roll.Row{row(1, 1, 1, 1, 1)}[:0])
	if got := roll.Classes(); len(got) != 0 {
		t.Errorf("Classes() = %v", got)
	}
}

// TestClassesZero is of P11.1, Classes: a class whose sums are 0 has its row, too.
func TestClassesZero(t *testing.T) {
	mustSum(t, []roll.Row{row(4, 1, 0, 0, 0)}, row(4, -1, 0, 0, 0))
	mustSum(t, []roll.Row{row(4, 1, 5, -6, 7), row(4, 2, -5, 6, -7), row(5, 1, 1, 1, 1)}, row(4, -1, 0, 0, 0), row(5, -1, 1, 1, 1))
}

// TestClassesOrder is of P11.1, Classes, and R5: rows in any order, of one class apart from each other, of one year twice.
func TestClassesOrder(t *testing.T) {
	rows := []roll.Row{row(7, 1, 1, 10, 100), row(2, 1, 2, 20, 200), row(7, 1, 4, 40, 400), row(5, 0, 8, 80, 800), row(2, 9, 16, 160, 1600), row(7, 0, 32, 320, 3200)}
	r := rand.New(rand.NewSource(11))
	for range 200 {
		mustSum(t, rows, row(2, -1, 18, 180, 1800), row(5, -1, 8, 80, 800), row(7, -1, 37, 370, 3700))
		r.Shuffle(len(rows), func(i, j int) { rows[i], rows[j] = rows[j], rows[i] })
	}
}

// TestClassesMovement is of P11.1, Classes: the movement is the sum of movements, not what lies between the other sums.
func TestClassesMovement(t *testing.T) {
	mustSum(t, []roll.Row{row(1, 1, 5, 0, 9), row(1, 2, 0, 3, 0), row(2, 1, 0, 6, 0)}, row(1, -1, 5, 3, 9), row(2, -1, 0, 6, 0))
}

// TestClassesOfClasses is of P11.1, Classes: rows of Year -1 are rows, too, and what was summed already stays.
func TestClassesOfClasses(t *testing.T) {
	once := roll.Classes(row(2, 5, 1, 2, 3), row(1, 5, 4, 5, 9), row(2, 6, 1, 1, 2))
	mustSum(t, once, row(1, -1, 4, 5, 9), row(2, -1, 2, 3, 5))
	mustSum(t, append(once, row(1, 0, 1, 1, 1)), row(1, -1, 5, 6, 10), row(2, -1, 2, 3, 5))
}

// TestClassesEach is of P11.1, Classes: every Class that a row tells, whether there is such a class or not.
func TestClassesEach(t *testing.T) {
	classes := []int{math.MinInt, math.MinInt + 1, -1 << 32, -10, -1, 0, 1, 2, 3, 4, 5, 6, 7, 8, 9, 10, 11, 256, 1 << 32, 1<<32 + 1, math.MaxInt}
	var rows, want []roll.Row
	for i, class := range classes {
		rows = append(rows, row(class, 100+i, i, 0, -i), row(class, -i, 0, 2*i, 0))
		want = append(want, row(class, -1, i, 2*i, -i))
	}
	mustSum(t, rows, want...)
	slices.Reverse(rows)
	mustSum(t, rows, want...)
}

// TestClassesGreat is of P11.1, Classes, and R6: sums may be beyond Money, and an int that holds the sum holds it whatever is summed on the way.
func TestClassesGreat(t *testing.T) {
	mustSum(t, []roll.Row{row(1, 0, most, 2*most, most), row(1, 1, most, -most, -most), row(1, 2, most, 2*most, -most)}, row(1, -1, 3*most, 3*most, -most))
	mustSum(t,
		[]roll.Row{row(1, 0, math.MaxInt, math.MaxInt, 1), row(1, 1, math.MaxInt, 5, math.MaxInt), row(1, 2, -math.MaxInt, math.MinInt, -1)},
		row(1, -1, math.MaxInt, 4, math.MaxInt))
}

// TestClassesMany is of P11.1, Classes: as many rows as a caller likes.
func TestClassesMany(t *testing.T) {
	var rows []roll.Row
	for i := range 90000 {
		rows = append(rows, row(9-i%9, i%100, 1, -2, i%9))
	}
	var want []roll.Row
	for class := 1; class <= 9; class++ {
		want = append(want, row(class, -1, 10000, -20000, 10000*(9-class)))
	}
	mustSum(t, rows, want...)
}

// TestBucketsAreKept is of R4: neither list is changed, nor what lies behind it; nor is it read.
func TestBucketsAreKept(t *testing.T) {
	opening := []api.Bucket{b(1, 3, 10), b(1, 5, -4), b(7, 0, 9), b(8, 8, 8), b(9, 9, 9)}
	closing := []api.Bucket{b(1, 4, 2), b(1, 5, -4), b(3, 9, 5), b(7, 0, 1), b(8, 1, 1)}
	before, after := slices.Clone(opening), slices.Clone(closing)
	for i := range opening {
		for j := range closing {
			mustRoll(t, opening[:i], closing[:j], words(opening[:i], closing[:j])...)
			mustRoll(t, opening[i:], closing[j:], words(opening[i:], closing[j:])...)
			mustRoll(t, opening[:i], opening[:j], words(opening[:i], opening[:j])...)
		}
	}
	if !slices.Equal(opening, before) || !slices.Equal(closing, after) {
		t.Errorf("the lists became %v and %v", opening, closing)
	}
}

// TestRowsAreKept is of R4: the rows of Classes stay in their order and as they are, and so does what lies behind them.
func TestRowsAreKept(t *testing.T) {
	rows := []roll.Row{row(7, 1, 1, 1, 1), row(2, 1, 2, 2, 2), row(7, 1, 4, 4, 4), row(1, 0, 8, 8, 8), row(1, 9, 9, 9, 9)}
	before := slices.Clone(rows)
	for n := range len(rows) + 1 {
		roll.Classes(rows[:n]...)
		if !slices.Equal(rows, before) {
			t.Fatalf("the rows became %v", rows)
		}
	}
	mustSum(t, rows[:2], row(2, -1, 2, 2, 2), row(7, -1, 1, 1, 1))
}

// TestAnswersAreNew is of R4: an answer shares no memory with an argument, nor with another answer.
func TestAnswersAreNew(t *testing.T) {
	for n := range 6 { // with whatever room there is behind a list of this length
		rows := []roll.Row{row(1, 1, 1, 1, 1), row(2, 1, 2, 2, 2), row(3, 1, 3, 3, 3), row(4, 1, 4, 4, 4), row(5, 1, 5, 5, 5)}[:n]
		before := slices.Clone(rows)
		one, two := roll.Classes(rows...), roll.Classes(rows...)
		want := slices.Clone(two)
		for i := range one {
			one[i] = row(8, 8, 8, 8, 8)
		}
		_ = append(one, row(9, 9, 9, 9, 9))
		if !slices.Equal(rows, before) || !slices.Equal(two, want) {
			t.Errorf("what was written over one answer is in %v and %v", rows, two)
		}
		clear(rows)
		if !slices.Equal(two, want) {
			t.Errorf("what was written over the rows is in %v", two)
		}

		opening := []api.Bucket{b(1, 1, 1), b(2, 1, 2), b(3, 1, 3), b(4, 1, 4), b(5, 1, 5)}[:n]
		first, second := roll.Forward(opening, opening), roll.Forward(opening, opening)
		rolled := slices.Clone(second)
		clear(first)
		_ = append(first, row(9, 9, 9, 9, 9))
		clear(opening)
		if !slices.Equal(second, rolled) {
			t.Errorf("what was written over one answer is in %v", second)
		}
	}
}

// words is the document's words for Forward: a row for each bucket that is in either list.
func words(opening, closing []api.Bucket) []roll.Row {
	rows := map[[2]int]roll.Row{}
	for _, x := range opening {
		rows[[2]int{x.Class, x.Year}] = row(x.Class, x.Year, x.Amount, -x.Amount, 0)
	}
	for _, x := range closing {
		was := rows[[2]int{x.Class, x.Year}].Opening
		rows[[2]int{x.Class, x.Year}] = row(x.Class, x.Year, was, x.Amount-was, x.Amount)
	}
	var list []roll.Row
	for _, x := range rows {
		list = append(list, x)
	}
	slices.SortFunc(list, func(x, y roll.Row) int { return cmp.Compare(x.Class*1000+x.Year, y.Class*1000+y.Year) })
	return list
}

// sums is the document's words for Classes, for the classes that there are.
func sums(rows []roll.Row) []roll.Row {
	var list []roll.Row
	for class := 1; class <= api.MaxClass; class++ {
		sum, some := row(class, -1, 0, 0, 0), false
		for _, x := range rows {
			if x.Class == class {
				sum = row(class, -1, sum.Opening+x.Opening, sum.Movement+x.Movement, sum.Closing+x.Closing)
				some = true
			}
		}
		if some {
			list = append(list, sum)
		}
	}
	return list
}

// TestRegisters is of P11.1: the rows of a Register as it was and as it became, against the document's words.
func TestRegisters(t *testing.T) {
	r := rand.New(rand.NewSource(11))
	some := func(l ...int) int { return l[r.Intn(len(l))] }
	for range 300 {
		x := bucket.New()
		for range 20 {
			was := x.Clone()
			for range r.Intn(8) {
				class, year := some(1, 1, 2, 3, 8, 9), some(0, 1, 2, 50, 98, 99)
				n := some(1, -1, 2, 10, -10, most, -most, -x.Get(class, year))
				x.Move(class, year, n)
				x.Reclass(class, year, some(1, 2, 9), some(0, 3, 99), some(n, 1, -5))
			}
			opening, closing := was.Rows(), x.Rows()
			rows := words(opening, closing)
			mustRoll(t, opening, closing, rows...)
			mustRoll(t, closing, opening, exchanged(rows)...)
			mustSum(t, rows, sums(rows)...)
			if moved := x.Total() - was.Total(); roll.Moved(opening, closing) != moved {
				t.Errorf("Moved(%v, %v) = %d; want %d", opening, closing, roll.Moved(opening, closing), moved)
			}
			if t.Failed() {
				t.FailNow()
			}
		}
	}
}
