package enact_test

import (
	"math"
	"math/rand"
	"slices"
	"testing"

	"scutage/api"
	"scutage/enact"
)

// row is an enact.Row in the order of Add's arguments.
func row(j string, year, rate, at int) enact.Row {
	return enact.Row{J: j, Year: year, Rate: rate, Period: at}
}

func add(x *enact.Table, r enact.Row) api.Errno {
	return x.Add(r.J, r.Year, r.Rate, r.Period)
}

// mustNew returns a Table to which rows were added; each one must be taken.
func mustNew(t *testing.T, rows ...enact.Row) *enact.Table {
	t.Helper()
	x := enact.New()
	if x == nil {
		t.Fatal("New() = nil")
	}
	mustAdd(t, x, rows...)
	return x
}

func mustAdd(t *testing.T, x *enact.Table, rows ...enact.Row) {
	t.Helper()
	for _, r := range rows {
		if e := add(x, r); e != api.OK {
			t.Fatalf("Add(%v) = %d", r, e)
		}
	}
}

func mustRefuse(t *testing.T, x *enact.Table, r enact.Row, e api.Errno) {
	t.Helper()
	before := x.Rows()
	if got := add(x, r); got != e {
		t.Errorf("Add(%v) = %d; want %d", r, got, e)
	}
	mustHave(t, x, before...)
}

func mustHave(t *testing.T, x *enact.Table, rows ...enact.Row) {
	t.Helper()
	if got := x.Rows(); !slices.Equal(got, rows) {
		t.Errorf("Rows() = %v; want %v", got, rows)
	}
}

func mustBe(t *testing.T, x *enact.Table, j string, year, at, rate int) {
	t.Helper()
	if got, ok := x.Rate(j, year, at); got != rate || !ok {
		t.Errorf("Rate(%q, %d, %d) = %d, %t; want %d", j, year, at, got, ok, rate)
	}
}

func mustLack(t *testing.T, x *enact.Table, j string, year, at int) {
	t.Helper()
	if got, ok := x.Rate(j, year, at); got != 0 || ok {
		t.Errorf("Rate(%q, %d, %d) = %d, %t", j, year, at, got, ok)
	}
}

// full returns MaxRates rows of one place, each with another year and period.
func full() []enact.Row {
	var rows []enact.Row
	for i := range api.MaxRates {
		rows = append(rows, row("uk", i*2, i+1, 399-i))
	}
	return rows
}

// TestNew is of P9.1, New: there are no rows, and each Table is another one.
func TestNew(t *testing.T) {
	x, other := mustNew(t), mustNew(t, row("uk", 0, 1, 0))
	mustHave(t, x)
	mustLack(t, x, "uk", 0, 0)
	mustLack(t, x, "uk", api.MaxYear, api.MaxPeriod)
	mustLack(t, x, "", 0, 0)
	mustHave(t, other, row("uk", 0, 1, 0))
}

// TestAddBounds is of P9.1, Add: the least and the greatest of all that is told.
func TestAddBounds(t *testing.T) {
	for _, year := range []int{0, 1, 98, api.MaxYear} {
		for _, rate := range []int{0, 1, 999999, api.MaxRate} {
			for _, at := range []int{0, 1, 398, api.MaxPeriod} {
				x := mustNew(t, row("uk", year, rate, at))
				mustHave(t, x, row("uk", year, rate, at))
				mustBe(t, x, "uk", year, at, rate)
				mustLack(t, x, "uk", year-1, at)
				mustLack(t, x, "uk", year, at-1)
			}
		}
	}
}

// TestAddAll is of P9.1, Add: every year and every period can be told.
func TestAddAll(t *testing.T) {
	for year := range api.MaxYear + 1 {
		mustBe(t, mustNew(t, row("uk", year, 7, 200)), "uk", year, 200, 7)
	}
	for at := range api.MaxPeriod + 1 {
		mustBe(t, mustNew(t, row("uk", 50, 7, at)), "uk", 50, at, 7)
	}
}

// TestAddPlace is of P9.1, Add: a place is any text but the empty one.
func TestAddPlace(t *testing.T) {
	long := string(make([]byte, 1000))
	places := []string{"u", "uk", "uk ", " uk", "UK", "ukx", "\x00", "\x00\x00", "\xff", "\xff\xfe", "é", "e\u0301", long, long[1:]}
	x := enact.New()
	for i, j := range places {
		mustAdd(t, x, row(j, 5, i, 5))
	}
	for i, j := range places {
		mustBe(t, x, j, 5, 5, i)
		mustRefuse(t, x, row(j, 5, 9, 5), api.ErrThere)
	}
	mustLack(t, x, "", 5, 5)
	mustLack(t, x, "k", 5, 5)
	mustLack(t, x, "\xfe", 5, 5)
}

// TestArg is of P9.1, Add, and R8: each argument that may not be, alone.
func TestArg(t *testing.T) {
	x := mustNew(t, row("uk", 5, 6, 7))
	mustRefuse(t, x, row("", 6, 6, 7), api.ErrArg)
	common := []int{-1, -2, -99, -399, math.MinInt, math.MinInt + 1, math.MinInt + 5, 1000001, 1 << 31, 1 << 32, 1<<32 + 5, 1 << 62, math.MaxInt}
	for _, n := range append([]int{100, 101, 399, 400}, common...) {
		mustRefuse(t, x, row("uk", n, 6, 7), api.ErrArg)
	}
	for _, n := range append([]int{1000002, 2000000, api.MaxFx}, common...) {
		mustRefuse(t, x, row("uk", 6, n, 7), api.ErrArg)
	}
	for _, n := range append([]int{400, 401, 404, 1000}, common...) {
		mustRefuse(t, x, row("uk", 6, 6, n), api.ErrArg)
	}
}

// TestThere is of P9.1, Add: a row with the same place, year and period, whatever its rate; it stays as it is.
func TestThere(t *testing.T) {
	x := mustNew(t, row("uk", 5, 6, 7), row("de", 5, 6, 7))
	for _, rate := range []int{0, 5, 6, 7, api.MaxRate} {
		mustRefuse(t, x, row("uk", 5, rate, 7), api.ErrThere)
		mustRefuse(t, x, row("de", 5, rate, 7), api.ErrThere)
	}
	mustBe(t, x, "uk", 5, 7, 6)
	mustAdd(t, x, row("fr", 5, 1, 7), row("uk", 4, 2, 7), row("uk", 6, 3, 7), row("uk", 5, 4, 6), row("uk", 5, 5, 8), row("uk", 7, 6, 5))
	for _, r := range x.Rows() {
		mustRefuse(t, x, r, api.ErrThere)
	}
}

// TestLimit is of P9.1, Add: MaxRates rows of one place, or of many, and no more.
func TestLimit(t *testing.T) {
	x := mustNew(t, full()...)
	mustHave(t, x, full()...)
	mustRefuse(t, x, row("uk", 99, 1, 0), api.ErrLimit)
	mustRefuse(t, x, row("de", 0, 1, 0), api.ErrLimit)
	for _, r := range full() {
		mustBe(t, x, "uk", r.Year, r.Period, r.Rate)
	}

	many := enact.New()
	for i := range api.MaxRates {
		mustAdd(t, many, row(string(rune('a'+i)), 5, i, 7))
	}
	mustRefuse(t, many, row("z", 5, 1, 7), api.ErrLimit)
	mustRefuse(t, many, row("a", 5, 1, 8), api.ErrLimit)
	mustBe(t, many, "a", 5, 7, 0)
}

// TestErrorOrder is of P9.1, Add, and R2: of errors that apply together, the first.
func TestErrorOrder(t *testing.T) {
	x := mustNew(t, full()...)
	first := full()[0]
	mustRefuse(t, x, first, api.ErrThere) // not ErrLimit
	first.Rate = -1
	mustRefuse(t, x, first, api.ErrArg) // neither ErrThere nor ErrLimit
	first.Rate = api.MaxRate + 1
	mustRefuse(t, x, first, api.ErrArg)
	for _, r := range []enact.Row{row("", 99, 1, 0), row("uk", 100, 1, 0), row("uk", 99, -1, 0), row("uk", 99, 1, 400)} {
		mustRefuse(t, x, r, api.ErrArg) // not ErrLimit
	}
}

// TestRefusedTakesNoRoom is of R2: what was refused does not count towards MaxRates.
func TestRefusedTakesNoRoom(t *testing.T) {
	x := enact.New()
	for _, r := range full() {
		mustRefuse(t, x, row("", 1, 1, 1), api.ErrArg)
		mustAdd(t, x, r)
		mustRefuse(t, x, r, api.ErrThere)
	}
	mustHave(t, x, full()...)
}

// TestRate is of P9.1, Rate: a rate holds from its year on, once it is enacted.
func TestRate(t *testing.T) {
	x := mustNew(t, row("uk", 5, 300000, 20))
	mustLack(t, x, "uk", 4, 20)
	mustLack(t, x, "uk", 5, 19)
	mustLack(t, x, "de", 5, 20)
	for _, year := range []int{5, 6, 50, 99} {
		for _, at := range []int{20, 21, 399} {
			mustBe(t, x, "uk", year, at, 300000)
		}
	}
}

// TestRateYearFirst is of P9.1, Rate: the greatest year goes ahead of the greatest period.
func TestRateYearFirst(t *testing.T) {
	early, late := row("uk", 5, 1, 30), row("uk", 8, 2, 20)
	for _, rows := range [][]enact.Row{{early, late}, {late, early}} {
		x := mustNew(t, rows...)
		mustBe(t, x, "uk", 9, 40, 2) // that of 5 was enacted after it
		mustBe(t, x, "uk", 8, 30, 2)
		mustBe(t, x, "uk", 7, 30, 1)
		mustBe(t, x, "uk", 8, 29, 2)
		mustLack(t, x, "uk", 7, 29)
		mustLack(t, x, "uk", 8, 19)
	}
}

// TestRateLatest is of P9.1, Rate: of one year, what was enacted last of all that is known.
func TestRateLatest(t *testing.T) {
	rows := []enact.Row{row("uk", 5, 7, 20), row("uk", 5, 3, 25), row("uk", 5, 9, 30)}
	orders := [][]int{{0, 1, 2}, {0, 2, 1}, {1, 0, 2}, {1, 2, 0}, {2, 0, 1}, {2, 1, 0}}
	for _, order := range orders {
		x := enact.New()
		for _, i := range order {
			mustAdd(t, x, rows[i])
		}
		mustLack(t, x, "uk", 5, 19)
		for at, rate := range []int{7, 7, 7, 7, 7, 3, 3, 3, 3, 3, 9, 9} {
			mustBe(t, x, "uk", 5, 20+at, rate)
			mustBe(t, x, "uk", 99, 20+at, rate)
		}
	}
}

// TestRateZero is of P9.1, Rate: a rate of 0 is known, and goes ahead of others.
func TestRateZero(t *testing.T) {
	x := mustNew(t, row("uk", 0, 0, 0))
	mustBe(t, x, "uk", 0, 0, 0)
	mustAdd(t, x, row("uk", 5, 4, 0), row("uk", 5, 0, 9))
	mustBe(t, x, "uk", 5, 8, 4)
	mustBe(t, x, "uk", 5, 9, 0)
}

// TestRateYearZero is of P9.1, Rate: year 0 and period 0 are as good as others.
func TestRateYearZero(t *testing.T) {
	x := mustNew(t, row("uk", 0, 1, 0), row("uk", 0, 2, 3))
	mustBe(t, x, "uk", 0, 0, 1)
	mustBe(t, x, "uk", 0, 2, 1)
	mustBe(t, x, "uk", 0, 3, 2)
}

// TestRatePlaces is of P9.1, Rate: the rows of other places tell nothing.
func TestRatePlaces(t *testing.T) {
	x := mustNew(t, row("uk", 5, 1, 5), row("de", 6, 2, 6), row("uka", 7, 3, 7), row("u", 8, 4, 8), row("Uk", 9, 5, 9))
	mustBe(t, x, "uk", 99, 399, 1)
	mustBe(t, x, "de", 99, 399, 2)
	mustBe(t, x, "uka", 99, 399, 3)
	mustBe(t, x, "u", 99, 399, 4)
	mustBe(t, x, "Uk", 99, 399, 5)
	mustLack(t, x, "uK", 99, 399)
	mustLack(t, x, "", 99, 399)
}

// TestRateBeyond is of P9.1, Rate: there are no rows below 0; beyond MaxYear and MaxPeriod all rows are at most that.
func TestRateBeyond(t *testing.T) {
	x := mustNew(t, row("uk", 0, 1, 0), row("uk", 99, 2, 399))
	for _, n := range []int{-1, -2, -100, math.MinInt, math.MinInt + 1, math.MinInt + 99} {
		mustLack(t, x, "uk", n, 399)
		mustLack(t, x, "uk", 99, n)
		mustLack(t, x, "uk", n, n)
	}
	for _, n := range []int{400, 1000, 1 << 31, 1 << 32, 1 << 40, 1<<63 - 2, math.MaxInt} {
		mustBe(t, x, "uk", 99, n, 2)
		mustBe(t, x, "uk", 98, n, 1)
		mustBe(t, x, "uk", n, 399, 2)
		mustBe(t, x, "uk", n, 398, 1)
		mustBe(t, x, "uk", n, n, 2)
		mustLack(t, x, "de", n, n)
	}
}

// TestRows is of P9.1, Rows: in the order in which they were added, not in that of places, years or periods.
func TestRows(t *testing.T) {
	rows := []enact.Row{row("uk", 9, 1, 3), row("de", 3, 5, 8), row("uk", 3, 5, 8), row("uk", 9, 0, 2), row("at", 0, 7, 0)}
	x := enact.New()
	for i, r := range rows {
		mustAdd(t, x, r)
		mustHave(t, x, rows[:i+1]...)
	}
	x.Rate("uk", 99, 399)
	mustHave(t, x, rows...)
}

// TestRowsAreNew is of R4: a list that was handed out is the caller's, and the Table does not touch it again.
func TestRowsAreNew(t *testing.T) {
	for length := range 9 { // with whatever room there is behind a list of this length
		x := mustNew(t, full()[:length]...)
		list := x.Rows()
		for i := range list {
			list[i] = row("de", 1, 1, 1)
		}
		_ = append(list, row("de", 2, 2, 2))
		mustHave(t, x, full()[:length]...)

		kept := x.Rows()
		mustAdd(t, x, row("fr", 3, 3, 3))
		_ = append(kept, row("de", 2, 2, 2))
		mustHave(t, x, append(full()[:length], row("fr", 3, 3, 3))...)
		if !slices.Equal(kept, full()[:length]) {
			t.Errorf("a list that was handed out became %v", kept)
		}
	}
}

// TestClone is of P9.1, Clone, and R4: a copy tells the same, and from then on both go their own ways.
func TestClone(t *testing.T) {
	for length := range 9 { // with whatever room there is behind a list of this length
		rows := full()[:length]
		x := mustNew(t, rows...)
		c := x.Clone()
		mustHave(t, c, rows...)
		mustAdd(t, x, row("fr", 3, 1, 3))
		mustAdd(t, c, row("fr", 3, 2, 3), row("de", 3, 3, 3))
		mustHave(t, x, append(slices.Clone(rows), row("fr", 3, 1, 3))...)
		mustHave(t, c, append(slices.Clone(rows), row("fr", 3, 2, 3), row("de", 3, 3, 3))...)
		mustBe(t, x, "fr", 3, 3, 1)
		mustBe(t, c, "fr", 3, 3, 2)
		mustLack(t, x, "de", 3, 3)
		for _, r := range rows {
			mustRefuse(t, c, r, api.ErrThere)
		}
	}
}

// TestCloneFull is of P9.1, Clone: what is full is full in the copy, too, and what the copy takes fills the copy alone.
func TestCloneFull(t *testing.T) {
	x := mustNew(t, full()...)
	mustRefuse(t, x.Clone(), row("de", 0, 1, 0), api.ErrLimit)

	x = mustNew(t, full()[1:]...)
	c := x.Clone()
	mustAdd(t, c, full()[0])
	mustRefuse(t, c, row("de", 0, 1, 0), api.ErrLimit)
	mustAdd(t, x, row("de", 0, 1, 0))
}

// known is the document's words for Rate, step by step: the rows that count, of these
// those with the greatest year, and of these the one with the greatest period.
func known(rows []enact.Row, j string, year, at int) (int, bool) {
	greatest, last := -1, -1
	for _, r := range rows {
		if r.J == j && r.Period <= at && r.Year <= year {
			greatest = max(greatest, r.Year)
		}
	}
	rate, found := 0, false
	for _, r := range rows {
		if r.J == j && r.Period <= at && r.Year == greatest && r.Period > last {
			last, rate, found = r.Period, r.Rate, true
		}
	}
	return rate, found
}

// TestModel is of P9.1 and R5: tables of few places, years and periods against the document's words.
func TestModel(t *testing.T) {
	r := rand.New(rand.NewSource(9))
	places := []string{"uk", "de", "u", ""}
	for range 300 {
		x := enact.New()
		var rows []enact.Row
		for range r.Intn(60) {
			next := row(places[r.Intn(4)], r.Intn(7)-1, r.Intn(9)-1, r.Intn(7)-1)
			if got, want := add(x, next), expected(rows, next); got != want {
				t.Fatalf("%v: Add(%v) = %d; want %d", rows, next, got, want)
			} else if got == api.OK {
				rows = append(rows, next)
			}
		}
		mustHave(t, x, rows...)
		for _, j := range places {
			for year := -1; year < 7; year++ {
				for at := -1; at < 7; at++ {
					rate, ok := known(rows, j, year, at)
					if got, is := x.Rate(j, year, at); got != rate || is != ok {
						t.Fatalf("%v: Rate(%q, %d, %d) = %d, %t; want %d, %t", rows, j, year, at, got, is, rate, ok)
					}
				}
			}
		}
	}
}

// expected is what Add answers of a row whose numbers are none that are too great.
func expected(rows []enact.Row, next enact.Row) api.Errno {
	if next.J == "" || next.Year < 0 || next.Rate < 0 || next.Period < 0 {
		return api.ErrArg
	}
	for _, r := range rows {
		next.Rate = r.Rate
		if r == next {
			return api.ErrThere
		}
	}
	if len(rows) == api.MaxRates {
		return api.ErrLimit
	}
	return api.OK
}
