package status_test

import (
	"math"
	"slices"
	"testing"

	"scutage/api"
	"scutage/status"
)

// beyond are numbers that denote no period.
var beyond = []int{
	-1, -2, -4, -399, -400, 400, 401, 404, 1000, 1 << 31, 1 << 32, 1<<32 + 3, 1 << 62,
	math.MaxInt, math.MaxInt - 1, math.MinInt, math.MinInt + 1, math.MinInt + 5,
}

func mustNew(t *testing.T, first int) *status.Status {
	t.Helper()
	s, e := status.New(first)
	if s == nil || e != api.OK {
		t.Fatalf("New(%d) = %v, %d", first, s, e)
	}
	return s
}

// do carries out steps: t touches, c closes, r reopens; each one must be taken.
func do(t *testing.T, s *status.Status, steps string) {
	t.Helper()
	for i := range steps {
		if e := step(s, steps[i]); e != api.OK {
			t.Fatalf("step %d of %q: error %d", i, steps, e)
		}
	}
}

func step(s *status.Status, b byte) api.Errno {
	switch b {
	case 't':
		return s.Touch()
	case 'c':
		return s.Close()
	default:
		return s.Reopen()
	}
}

// mustBe holds what a Status tells: the open period (-1: none) and the closed ones.
func mustBe(t *testing.T, s *status.Status, open int, closed ...int) {
	t.Helper()
	want, is := open, open >= 0
	if !is {
		want = 0
	}
	if p, ok := s.Open(); p != want || ok != is {
		t.Errorf("Open() = %d, %t; want %d, %t", p, ok, want, is)
	}
	if got := s.Closed(); !slices.Equal(got, closed) {
		t.Errorf("Closed() = %v; want %v", got, closed)
	}
}

// mustBeTouched holds whether the open period was touched, by a copy that tries to go back from it.
func mustBeTouched(t *testing.T, s *status.Status, touched bool) {
	t.Helper()
	want := api.OK
	if touched {
		want = api.ErrState
	}
	if e := s.Clone().Reopen(); e != want {
		t.Errorf("Reopen() = %d; want %d", e, want)
	}
}

func from(first, upto int) []int {
	var all []int
	for p := first; p <= upto; p++ {
		all = append(all, p)
	}
	return all
}

// TestNew is of P8.1, New: every period can be the first, each time another Status.
func TestNew(t *testing.T) {
	for first := range api.MaxPeriod + 1 {
		s, other := mustNew(t, first), mustNew(t, first)
		do(t, other, "tc")
		mustBe(t, s, first)
		if e := s.Reopen(); e != api.ErrNone {
			t.Errorf("Reopen of New(%d) = %d", first, e)
		}
		mustBe(t, s, first)
	}
}

// TestArg is of P8.1, New, and R8: what is no period.
func TestArg(t *testing.T) {
	for _, first := range beyond {
		if s, e := status.New(first); s != nil || e != api.ErrArg {
			t.Errorf("New(%d) = %v, %d", first, s, e)
		}
	}
}

// TestClose is of P8.1, Close: the next period is open, and untouched, whether the closed one was touched or not.
func TestClose(t *testing.T) {
	s := mustNew(t, 5)
	do(t, s, "c")
	mustBe(t, s, 6, 5)
	mustBeTouched(t, s, false)
	do(t, s, "tc")
	mustBe(t, s, 7, 5, 6)
	mustBeTouched(t, s, false)
	do(t, s, "ttc") // touched twice
	mustBe(t, s, 8, 5, 6, 7)
	mustBeTouched(t, s, false)
}

// TestCloseAll is of P8.1, Open, Close and Closed: all periods in turn, back, and once more.
func TestCloseAll(t *testing.T) {
	s := mustNew(t, 0)
	for range 2 {
		for p := range api.MaxPeriod + 1 {
			mustBe(t, s, p, from(0, p-1)...)
			do(t, s, "c")
		}
		mustBe(t, s, -1, from(0, api.MaxPeriod)...)
		for p := api.MaxPeriod; p >= 0; p-- {
			do(t, s, "r")
			mustBe(t, s, p, from(0, p-1)...)
		}
	}
}

// TestTouch is of P8.1, Touch: it tells by Reopen alone, and once is as good as more.
func TestTouch(t *testing.T) {
	s := mustNew(t, 5)
	do(t, s, "c")
	mustBeTouched(t, s, false)
	do(t, s, "t")
	mustBe(t, s, 6, 5)
	mustBeTouched(t, s, true)
	do(t, s, "t")
	mustBe(t, s, 6, 5)
	mustBeTouched(t, s, true)
}

// TestReopen is of P8.1, Reopen: each period is touched or untouched as it was when it was closed.
func TestReopen(t *testing.T) {
	s := mustNew(t, 5)
	do(t, s, "ctccc") // of 5 to 8, only 6 was touched
	mustBe(t, s, 9, 5, 6, 7, 8)
	do(t, s, "r")
	mustBe(t, s, 8, 5, 6, 7)
	mustBeTouched(t, s, false)
	do(t, s, "r")
	mustBe(t, s, 7, 5, 6)
	mustBeTouched(t, s, false)
	do(t, s, "r")
	mustBe(t, s, 6, 5)
	mustBeTouched(t, s, true)
	if e := s.Reopen(); e != api.ErrState {
		t.Errorf("Reopen() = %d", e)
	}
	mustBe(t, s, 6, 5)
	do(t, s, "c") // it is touched still when it is closed again
	mustBe(t, s, 7, 5, 6)
	mustBeTouched(t, s, false)
	do(t, s, "r")
	mustBeTouched(t, s, true)
}

// TestReopenTouched is of P8.1, Reopen and Touch: a period that is touched only when it is open again stays so.
func TestReopenTouched(t *testing.T) {
	s := mustNew(t, 5)
	do(t, s, "ccr")
	mustBeTouched(t, s, false)
	do(t, s, "tcr")
	mustBe(t, s, 6, 5)
	mustBeTouched(t, s, true)
	do(t, s, "c")
	do(t, s, "cr")
	mustBe(t, s, 7, 5, 6)
	mustBeTouched(t, s, false) // and the one behind it never was
}

// TestReopenErrors is of P8.1, Reopen: each error, and the first one where both apply.
func TestReopenErrors(t *testing.T) {
	s := mustNew(t, 5)
	if e := s.Reopen(); e != api.ErrNone {
		t.Errorf("none closed: %d", e)
	}
	do(t, s, "t")
	if e := s.Reopen(); e != api.ErrNone { // not ErrState
		t.Errorf("none closed, and touched: %d", e)
	}
	mustBe(t, s, 5)
	do(t, s, "ct")
	if e := s.Reopen(); e != api.ErrState {
		t.Errorf("touched: %d", e)
	}
	mustBe(t, s, 6, 5)
	do(t, s, "cr")
	mustBe(t, s, 6, 5)
}

// TestReopenErrorsAfter is of P8.1, Reopen: none is closed any more when the first one is open again.
func TestReopenErrorsAfter(t *testing.T) {
	s := mustNew(t, 5)
	do(t, s, "tcr")
	mustBe(t, s, 5)
	if e := s.Reopen(); e != api.ErrNone {
		t.Errorf("Reopen() = %d", e)
	}
	mustBe(t, s, 5)
}

// TestLast is of P8.1: what is asked, and refused, when MaxPeriod is closed.
func TestLast(t *testing.T) {
	for _, steps := range []string{"c", "tc"} {
		s := mustNew(t, api.MaxPeriod)
		mustBe(t, s, api.MaxPeriod)
		do(t, s, steps)
		for range 2 {
			mustBe(t, s, -1, api.MaxPeriod)
			if e := s.Close(); e != api.ErrState {
				t.Errorf("Close() = %d", e)
			}
			if e := s.Touch(); e != api.ErrState {
				t.Errorf("Touch() = %d", e)
			}
		}
		do(t, s, "r") // the Touch that was refused has touched nothing
		mustBe(t, s, api.MaxPeriod)
		do(t, s, "tc")
		mustBe(t, s, -1, api.MaxPeriod)
	}
}

// TestLastTouched is of P8.1, Reopen: MaxPeriod, too, is touched or untouched as it was.
func TestLastTouched(t *testing.T) {
	s := mustNew(t, api.MaxPeriod-1)
	do(t, s, "ccr")
	mustBe(t, s, api.MaxPeriod, api.MaxPeriod-1)
	mustBeTouched(t, s, false)
	do(t, s, "tcr")
	mustBe(t, s, api.MaxPeriod, api.MaxPeriod-1)
	mustBeTouched(t, s, true)
}

// TestClone is of P8.1, Clone, and R4: a copy tells the same, and from then on both go their own ways.
func TestClone(t *testing.T) {
	s := mustNew(t, 5)
	do(t, s, "tcct")
	c := s.Clone()
	mustBe(t, c, 7, 5, 6)
	mustBeTouched(t, c, true)
	do(t, c, "ctc")
	mustBe(t, c, 9, 5, 6, 7, 8)
	mustBe(t, s, 7, 5, 6)
	mustBeTouched(t, s, true)

	d := s.Clone()
	do(t, s, "c")
	mustBe(t, d, 7, 5, 6)
	mustBeTouched(t, d, true)
	mustBe(t, s, 8, 5, 6, 7)
}

// TestCloneNew is of P8.1, Clone: of what nothing was done to yet.
func TestCloneNew(t *testing.T) {
	s := mustNew(t, 5)
	c := s.Clone()
	do(t, s, "tc")
	mustBe(t, c, 5)
	do(t, c, "ccr")
	mustBe(t, c, 6, 5)
	mustBeTouched(t, c, false)
	mustBe(t, s, 6, 5)
}

// TestCloneShares is of P8.1, Clone, and R4: what was closed in one and not in the other, the touched periods above all.
func TestCloneShares(t *testing.T) {
	for length := range 9 { // with whatever room there is behind a list of this length
		s := mustNew(t, 5)
		for range length {
			do(t, s, "c")
		}
		c := s.Clone()
		do(t, s, "tc")
		do(t, c, "c")
		do(t, s, "r")
		do(t, c, "r")
		if length > 0 {
			mustBeTouched(t, s, true)
			mustBeTouched(t, c, false)
		}
		if length < 2 {
			continue
		}
		s = c.Clone()
		do(t, c, "rtc") // one that both have closed is touched in one of them
		do(t, s, "r")
		do(t, c, "r")
		mustBeTouched(t, s, false)
		mustBeTouched(t, c, true)
	}
}

// TestClosedIsNew is of R4: a list that was handed out is the caller's, and the Status does not touch it again.
func TestClosedIsNew(t *testing.T) {
	s := mustNew(t, 5)
	do(t, s, "ccc")
	list := s.Closed()
	for i := range list {
		list[i] = 99
	}
	_ = append(list, 98)
	mustBe(t, s, 8, 5, 6, 7)
	kept := s.Closed()
	do(t, s, "rrr")
	do(t, s, "c")
	if !slices.Equal(kept, []int{5, 6, 7}) {
		t.Errorf("a list that was handed out became %v", kept)
	}
}

// model is the document's words: the open period, the closed ones, and which of all were touched.
type model struct {
	open    int
	closed  []int
	touched [api.MaxPeriod + 2]bool
}

func (m *model) step(b byte) api.Errno {
	none := m.open > api.MaxPeriod
	switch b {
	case 't':
		if none {
			return api.ErrState
		}
		m.touched[m.open] = true
	case 'c':
		if none {
			return api.ErrState
		}
		m.closed = append(m.closed, m.open)
		m.open++
		m.touched[m.open] = false
	default:
		if len(m.closed) == 0 {
			return api.ErrNone
		}
		if m.touched[m.open] {
			return api.ErrState
		}
		m.open = m.closed[len(m.closed)-1]
		m.closed = m.closed[:len(m.closed)-1]
	}
	return api.OK
}

// TestAllRuns is of P8.1, R2 and R5: every run of up to nine steps, from an ordinary
// first period and from those near the end, against the document's words.
func TestAllRuns(t *testing.T) {
	for _, first := range []int{0, 5, api.MaxPeriod - 2, api.MaxPeriod - 1, api.MaxPeriod} {
		runs := []string{""}
		for length := range 10 {
			var longer []string
			for _, run := range runs {
				testRun(t, first, run)
				if t.Failed() {
					return
				}
				if length < 9 {
					longer = append(longer, run+"t", run+"c", run+"r")
				}
			}
			runs = longer
		}
	}
}

func testRun(t *testing.T, first int, run string) {
	t.Helper()
	s, m := mustNew(t, first), &model{open: first}
	for i := range run {
		if got, want := step(s, run[i]), m.step(run[i]); got != want {
			t.Errorf("New(%d), step %d of %q: error %d; want %d", first, i, run, got, want)
		}
	}
	open := m.open
	if open > api.MaxPeriod {
		open = -1
	}
	mustBe(t, s, open, m.closed...)
	mustBe(t, s.Clone(), open, m.closed...)
	if t.Failed() {
		t.Logf("New(%d), after %q", first, run)
	}
}
