package store_test

import (
	"math"
	"reflect"
	"slices"
	"testing"

	"scutage/api"
	"scutage/store"
)

const m = api.MaxMoney

// lines are of accounts and amounts, by turns.
func lines(n ...int) []api.Line {
	var l []api.Line
	for i := 0; i < len(n); i += 2 {
		l = append(l, api.Line{Account: n[i], Amount: n[i+1]})
	}
	return l
}

// post is what is posted.
type post struct {
	entity      string
	p, kind, of int
	l           []api.Line
}

func provision(entity string, p int, n ...int) post {
	return post{entity, p, api.Provision, 0, lines(n...)}
}

func reversal(entity string, p, of int, n ...int) post {
	return post{entity, p, api.Reversal, of, lines(n...)}
}

// state is all that a Store tells of some entities, with lists that are empty as nil.
type state struct {
	Journals []api.Journal
	Trials   [][]api.Line
}

func stateOf(s *store.Store) state {
	var all state
	for _, j := range s.Journals() {
		j.Lines = append([]api.Line(nil), j.Lines...)
		all.Journals = append(all.Journals, j)
	}
	for _, entity := range []string{"", "a", "b", "z"} {
		for upto := -1; upto < 10; upto++ {
			all.Trials = append(all.Trials, append([]api.Line(nil), s.Trial(entity, upto)...))
		}
	}
	return all
}

// mustPost posts, and holds against the document what a Store tells of a journal that it takes.
func mustPost(t *testing.T, s *store.Store, all ...post) {
	t.Helper()
	for _, x := range all {
		was, given := stateOf(s).Journals, append([]api.Line(nil), x.l...)
		seq, e := s.Post(x.entity, x.p, x.kind, x.of, x.l)
		if seq != len(was)+1 || e != api.OK {
			t.Errorf("Post(%v) = %d, %d; want %d", x, seq, e, len(was)+1)
		}
		want := append(was, api.Journal{Seq: len(was) + 1, Entity: x.entity, Period: x.p, Kind: x.kind, Of: x.of, Lines: given})
		if got := stateOf(s).Journals; !reflect.DeepEqual(got, want) {
			t.Errorf("after Post(%v): %v; want %v", x, got, want)
		}
		if !slices.Equal(x.l, given) {
			t.Errorf("Post has made %v %v", given, x.l)
		}
	}
}

// mustRefuse posts what is refused, and changes nothing (R2).
func mustRefuse(t *testing.T, s *store.Store, want api.Errno, all ...post) {
	t.Helper()
	for _, x := range all {
		was, given := stateOf(s), slices.Clone(x.l)
		if seq, e := s.Post(x.entity, x.p, x.kind, x.of, x.l); seq != 0 || e != want {
			t.Errorf("Post(%v) = %d, %d; want 0, %d", x, seq, e, want)
		}
		if got := stateOf(s); !reflect.DeepEqual(got, was) {
			t.Errorf("Post(%v) has made %v %v", x, was, got)
		}
		if !slices.Equal(x.l, given) {
			t.Errorf("Post has made %v %v", given, x.l)
		}
	}
}

// testBalances holds Trial, and Balance of all accounts and of some that do not exist.
func testBalances(t *testing.T, s *store.Store, entity string, upto int, want []api.Line) {
	t.Helper()
	if got := s.Trial(entity, upto); !slices.Equal(got, want) {
		t.Errorf("Trial(%q, %d) = %v; want %v", entity, upto, got, want)
	}
	balances := map[int]int{}
	for _, line := range want {
		balances[line.Account] = line.Amount
	}
	for _, account := range []int{1, 2, 3, 4, 5, 6, 7, 0, -1, 8, 99, 1<<32 + 1, math.MaxInt, math.MinInt} {
		if got := s.Balance(entity, account, upto); got != balances[account] {
			t.Errorf("Balance(%q, %d, %d) = %d; want %d", entity, account, upto, got, balances[account])
		}
	}
}

// TestNew is of P7.1, New: a Store without journals, each time another one.
func TestNew(t *testing.T) {
	s, other := store.New(), store.New()
	mustPost(t, other, provision("a", 3, 1, 5, 2, -5))
	if got := s.Journals(); len(got) != 0 {
		t.Error(got)
	}
	for _, upto := range []int{-1, 0, 3, 399, 400} {
		testBalances(t, s, "a", upto, nil)
		testBalances(t, s, "", upto, nil)
	}
	mustPost(t, s, provision("a", 3))
}

// TestPost is of P7.1, Post: what is taken, to the edges, and its Seq.
func TestPost(t *testing.T) {
	mustPost(t, store.New(),
		provision("a", 3, 1, 5, 2, -7, 4, 2),
		provision("b", 3, 1, 9, 2, -8, 4, -1), // the same period, another entity
		provision("a", 3, 1, 5, 2, -5),        // and once more in the same
		provision("a", 4),
		post{"a", 4, api.Provision, 0, []api.Line{}},
		provision("a", 2, 1, 1, 2, -1), // an earlier period
		provision("a", 0, 6, -3, 7, 3),
		provision("a", api.MaxPeriod, 1, 1, 2, 2, 3, 3, 4, 4, 5, 5, 6, 6, 7, -21),
		provision("c", 7, 1, m, 2, -m),
		provision("d", 7, 1, -m, 2, m),
		provision(" ", 7, 1, 5, 2, -5),
		provision("\x00\xff a name of whatever bytes, and longer than eight", 7, 1, 5, 2, -5),
	)
}

// TestArg is of P7.1, Post: each argument alone that may not be.
func TestArg(t *testing.T) {
	s := store.New()
	mustPost(t, s, provision("a", 3, 1, 5, 2, -5))
	mustRefuse(t, s, api.ErrArg, provision("", 3, 1, 5, 2, -5), reversal("", 3, 1, 1, -5, 2, 5))
	for _, p := range []int{-1, -2, 400, 401, 1 << 32, 1<<32 + 3, math.MaxInt, math.MinInt, math.MinInt + 3} {
		mustRefuse(t, s, api.ErrArg, provision("a", p, 1, 5, 2, -5), reversal("a", p, 1, 1, -5, 2, 5))
	}
	for _, kind := range []int{0, -1, -2, 3, 4, 1<<8 + 1, 1<<32 + 1, 1<<32 + 2, math.MaxInt, math.MinInt, math.MinInt + 1, math.MinInt + 2} {
		mustRefuse(t, s, api.ErrArg, post{"a", 3, kind, 0, lines(1, 5, 2, -5)}, post{"a", 3, kind, 1, lines(1, -5, 2, 5)})
	}
	for _, of := range []int{1, -1, 2, 200, 1 << 32, math.MaxInt, math.MinInt} {
		mustRefuse(t, s, api.ErrArg, post{"a", 3, api.Provision, of, lines(1, -5, 2, 5)})
	}
}

// TestReversal is of P7.1, Post: Reversals that are taken, and T2: what they leave.
func TestReversal(t *testing.T) {
	s := store.New()
	mustPost(t, s,
		provision("a", 3, 1, 5, 2, -7, 4, 2),
		provision("a", 3, 1, 4, 2, -4),
		provision("b", 3, 1, 5, 2, -7, 4, 2),
		provision("a", 5),
		reversal("a", 3, 2, 1, -4, 2, 4), // not in the order of what they reverse
		reversal("a", 3, 1, 1, -5, 2, 7, 4, -2),
		post{"a", 5, api.Reversal, 4, []api.Line{}}, // of no lines, no lines
		provision("a", 3, 1, 5, 2, -7, 4, 2),        // again, after it was opened again
		reversal("a", 3, 8, 1, -5, 2, 7, 4, -2),
		provision("a", 0, 1, 5, 2, -7, 4, 2),
		provision("a", api.MaxPeriod, 1, m-5, 2, 7-m, 4, -2),
		reversal("a", 0, 10, 1, -5, 2, 7, 4, -2),
		reversal("a", api.MaxPeriod, 11, 1, 5-m, 2, m-7, 4, 2),
	)
	for upto := -1; upto <= api.MaxPeriod+1; upto++ {
		testBalances(t, s, "a", upto, nil)
	}
	testBalances(t, s, "b", 3, lines(1, 5, 2, -7, 4, 2))
}

// TestNone is of P7.1, Post: Reversals of what there is not, of another entity's, of another period's and of a Reversal.
func TestNone(t *testing.T) {
	s := store.New()
	for _, of := range []int{0, 1, 2, -1} {
		mustRefuse(t, s, api.ErrNone, reversal("a", 3, of), reversal("a", 3, of, 1, -5, 2, 5))
	}
	mustPost(t, s,
		provision("a", 3, 1, 5, 2, -5),
		provision("b", 4, 1, 5, 2, -5),
		provision("a", 4),
		provision("A", 5, 1, 5, 2, -5),
		reversal("a", 3, 1, 1, -5, 2, 5),
		reversal("a", 4, 3),
	)
	for _, of := range []int{0, -1, -2, -6, 7, 8, 199, 200, 201, 1<<8 + 2, 1<<32 + 2, math.MaxInt, math.MinInt, math.MinInt + 1, math.MinInt + 2} {
		mustRefuse(t, s, api.ErrNone, reversal("b", 4, of, 1, -5, 2, 5), reversal("b", 4, of))
	}
	mustRefuse(t, s, api.ErrNone,
		reversal("a", 4, 2, 1, -5, 2, 5), reversal("B", 4, 2, 1, -5, 2, 5), reversal("bb", 4, 2, 1, -5, 2, 5), reversal("c", 4, 2, 1, -5, 2, 5),
		reversal("b", 3, 2, 1, -5, 2, 5), reversal("b", 5, 2, 1, -5, 2, 5), reversal("b", 0, 2, 1, -5, 2, 5), reversal("b", 399, 2, 1, -5, 2, 5),
		reversal("a", 5, 4, 1, -5, 2, 5), reversal("A\x00", 5, 4, 1, -5, 2, 5),
		reversal("a", 3, 5, 1, 5, 2, -5), reversal("a", 3, 5, 1, -5, 2, 5), reversal("a", 4, 6), // of Reversals
	)
	mustPost(t, s, reversal("b", 4, 2, 1, -5, 2, 5), reversal("A", 5, 4, 1, -5, 2, 5))
}

// TestThere is of P7.1, Post: a journal is reversed once, whatever came after it.
func TestThere(t *testing.T) {
	s := store.New()
	mustPost(t, s,
		provision("a", 3, 1, 5, 2, -5),
		provision("a", 3, 1, 5, 2, -5),
		provision("a", 4),
		reversal("a", 3, 1, 1, -5, 2, 5),
	)
	mustRefuse(t, s, api.ErrThere, reversal("a", 3, 1, 1, -5, 2, 5), reversal("a", 3, 1))
	mustPost(t, s, reversal("a", 4, 3), provision("a", 3, 1, 5, 2, -5), reversal("a", 3, 2, 1, -5, 2, 5))
	mustRefuse(t, s, api.ErrThere, reversal("a", 3, 1, 1, -5, 2, 5), reversal("a", 3, 2, 1, -5, 2, 5), reversal("a", 4, 3))
	mustPost(t, s, reversal("a", 3, 6, 1, -5, 2, 5))
	mustRefuse(t, s, api.ErrThere, reversal("a", 3, 6, 1, -5, 2, 5))
}

// TestForm is of P7.1, Post: lines that are no journal's, and a Reversal's that are not its journal's, negated.
func TestForm(t *testing.T) {
	s := store.New()
	mustPost(t, s, provision("a", 3, 1, 5, 2, -7, 4, 2), provision("a", 4))
	for _, l := range [][]api.Line{
		lines(1, 5), lines(1, 5, 2, -4), lines(2, 5, 1, -5), lines(1, 5, 1, -5), lines(1, 0), lines(1, 5, 2, 0, 3, -5),
		lines(0, 5, 2, -5), lines(1, 5, 8, -5), lines(1, m+1, 2, -m-1), lines(1, math.MaxInt, 2, -math.MaxInt), lines(1, math.MinInt, 2, math.MinInt),
		make([]api.Line, 21), make([]api.Line, 5000),
	} {
		mustRefuse(t, s, api.ErrForm, post{"a", 3, api.Provision, 0, l}, post{"a", 3, api.Reversal, 1, l}, post{"a", 4, api.Reversal, 2, l})
	}
	mustRefuse(t, s, api.ErrForm,
		reversal("a", 3, 1),
		post{"a", 3, api.Reversal, 1, []api.Line{}},
		reversal("a", 3, 1, 1, 5, 2, -7, 4, 2), // not negated
		reversal("a", 3, 1, 1, -5, 2, 8, 4, -3),
		reversal("a", 3, 1, 1, -5, 2, 5),
		reversal("a", 3, 1, 1, -5, 2, 7, 5, -2),
		reversal("a", 3, 1, 1, -5, 2, 7, 4, -3, 5, 1),
		reversal("a", 3, 1, 2, 7, 1, -5, 4, -2),
		reversal("a", 3, 1, 1, -4, 2, 7, 4, -3),
		reversal("a", 4, 2, 1, -5, 2, 5),
	)
	mustPost(t, s, reversal("a", 3, 1, 1, -5, 2, 7, 4, -2), reversal("a", 4, 2))
}

// fill posts empty journals till there are n.
func fill(t *testing.T, s *store.Store, n int) {
	t.Helper()
	for i := len(s.Journals()); i < n; i++ {
		if seq, e := s.Post([]string{"a", "b", "z"}[i%3], i%400, api.Provision, 0, nil); seq != i+1 || e != api.OK {
			t.Fatal(i, seq, e)
		}
	}
}

// TestLimit is of P7.1, Post: MaxJournals of all entities together, and not one more.
func TestLimit(t *testing.T) {
	s := store.New()
	mustPost(t, s, provision("a", 3, 1, 5, 2, -5), provision("b", 3, 1, 5, 2, -5))
	fill(t, s, api.MaxJournals-1)
	short := s.Clone()
	mustPost(t, s, provision("a", 3, 1, 5, 2, -5))
	mustRefuse(t, s, api.ErrLimit, provision("a", 3), provision("y", 3), provision("a", 3, 1, 5, 2, -5), reversal("a", 3, 1, 1, -5, 2, 5))
	mustPost(t, short, reversal("a", 3, 1, 1, -5, 2, 5))
	mustRefuse(t, short, api.ErrLimit, provision("a", 3), reversal("b", 3, 2, 1, -5, 2, 5))
	if len(s.Journals()) != 200 || len(short.Journals()) != 200 {
		t.Error(len(s.Journals()), len(short.Journals()))
	}
}

// TestOver is of P7.1, Post: each account's balance up to Money and not a unit more, for either sign, over all periods.
func TestOver(t *testing.T) {
	for account := 2; account <= 7; account++ {
		for _, sign := range []int{1, -1} {
			s := store.New()
			mustPost(t, s, provision("a", 5, 1, -sign*(m-9), account, sign*(m-9)), provision("b", 5, 1, -sign*m, account, sign*m))
			mustRefuse(t, s, api.ErrOver,
				provision("a", 5, 1, -sign*10, account, sign*10),
				provision("a", 0, 1, -sign*10, account, sign*10),
				provision("a", 399, 1, -sign*10, account, sign*10),
				provision("a", 5, 1, -sign*m, account, sign*m),
				provision("b", 5, 1, -sign, account, sign),
			)
			mustPost(t, s,
				provision("a", 0, 1, -sign*4, account, sign*4),
				provision("a", 399, 1, -sign*5, account, sign*5),
				provision("c", 5, 1, -sign*m, account, sign*m),
			)
			mustRefuse(t, s, api.ErrOver, provision("a", 5, 1, -sign, account, sign))
			mustPost(t, s, provision("a", 5, 1, sign*m, account, -sign*m), provision("a", 5, 1, sign*m, account, -sign*m))
			mustRefuse(t, s, api.ErrOver, provision("a", 5, 1, sign, account, -sign))
			testBalances(t, s, "a", 999, lines(1, sign*m, account, -sign*m))
		}
	}
}

// TestOverEach is of P7.1, Post: one account that would be over, among others that would not.
func TestOverEach(t *testing.T) {
	s := store.New()
	mustPost(t, s, provision("a", 5, 1, m, 3, -m/2, 4, -m/2), provision("a", 5, 5, -m, 6, m/2, 7, m/2))
	mustRefuse(t, s, api.ErrOver,
		provision("a", 5, 1, 1, 2, -1),
		provision("a", 5, 3, 7, 4, -6, 5, -1),
		provision("a", 5, 2, 1, 5, -1),
		provision("a", 5, 1, 1, 5, -1),
		provision("a", 5, 2, -5, 5, -1, 6, 6),
	)
	mustPost(t, s, provision("a", 5, 2, 3, 3, 4, 7, -7), provision("a", 5, 1, -1, 5, 1), provision("a", 5, 1, 1, 5, -1))
}

// TestOverReversal is of P7.1, Post: a Reversal may be over, too, and is then taken later.
func TestOverReversal(t *testing.T) {
	s := store.New()
	mustPost(t, s, provision("a", 5, 1, -8, 2, 8), provision("a", 6, 1, m, 2, -m), provision("a", 7, 1, 3, 2, -3))
	mustRefuse(t, s, api.ErrOver, reversal("a", 5, 1, 1, 8, 2, -8))
	mustPost(t, s, reversal("a", 7, 3, 1, -3, 2, 3), reversal("a", 5, 1, 1, 8, 2, -8))
	testBalances(t, s, "a", 7, lines(1, m, 2, -m))
}

// TestOrder is of P7.1, Post: of several errors the first in the document's order.
func TestOrder(t *testing.T) {
	s := store.New()
	mustPost(t, s,
		provision("a", 3, 1, 5, 2, -5),
		reversal("a", 3, 1, 1, -5, 2, 5),
		provision("a", 4, 1, -7, 2, 7),
		provision("a", 5, 1, m, 2, -m),
		provision("a", 5, 1, 7, 2, -7),
	)
	bad := lines(1, 5)
	args := []post{
		{"", 3, api.Reversal, 9, bad}, {"a", 400, api.Reversal, 9, bad}, {"a", 3, 3, 9, bad}, {"a", 3, api.Provision, 9, bad},
		{"a", -1, api.Reversal, 1, bad}, {"", 3, api.Reversal, 1, bad}, {"a", 3, 0, 1, nil}, {"a", 5, api.Provision, 1, lines(1, m, 2, -m)},
	}
	nones := []post{{"b", 3, api.Reversal, 1, bad}, {"a", 4, api.Reversal, 1, bad}, {"a", 3, api.Reversal, 2, bad}, {"a", 3, api.Reversal, 99, bad}, reversal("b", 4, 3, 1, m, 2, -m)}
	theres := []post{{"a", 3, api.Reversal, 1, bad}, reversal("a", 3, 1, 1, m, 2, -m), reversal("a", 3, 1)}
	forms := []post{{"a", 5, api.Provision, 0, lines(1, m)}, reversal("a", 4, 3, 1, m, 2, -m), {"a", 4, api.Reversal, 3, bad}}
	overs := []post{provision("a", 5, 1, m, 2, -m), reversal("a", 4, 3, 1, 7, 2, -7)}
	test := func(last api.Errno) {
		t.Helper()
		mustRefuse(t, s, api.ErrArg, args...)
		mustRefuse(t, s, api.ErrNone, nones...)
		mustRefuse(t, s, api.ErrThere, theres...)
		mustRefuse(t, s, api.ErrForm, forms...)
		mustRefuse(t, s, last, overs...)
	}
	test(api.ErrOver)
	fill(t, s, api.MaxJournals)
	test(api.ErrLimit)
}

// TestTrial is of P7.1, Trial and Balance: by entity and period, whatever the order in which they were posted.
func TestTrial(t *testing.T) {
	s := store.New()
	mustPost(t, s,
		provision("a", 5, 1, 4, 2, -2, 4, -2),
		provision("b", 4, 1, 1, 2, -2, 4, 1),
		provision("a", 3, 1, 5, 2, -7, 4, 2),
		provision("a", 0, 6, -3, 7, 3),
		provision("A", 3, 1, 60, 2, -60),
		provision("a ", 3, 1, 70, 2, -70),
		provision("aa", 3, 1, 80, 2, -80),
		provision("a", 399, 3, 11, 5, -12, 6, 1),
		reversal("b", 4, 2, 1, -1, 2, 2, 4, -1),
		provision("a", 4),
	)
	for upto, want := range map[int][]api.Line{
		math.MinInt: nil, -400: nil, -4: nil, -1: nil,
		0: lines(6, -3, 7, 3), 1: lines(6, -3, 7, 3), 2: lines(6, -3, 7, 3),
		3: lines(1, 5, 2, -7, 4, 2, 6, -3, 7, 3), 4: lines(1, 5, 2, -7, 4, 2, 6, -3, 7, 3),
		5: lines(1, 9, 2, -9, 6, -3, 7, 3), 398: lines(1, 9, 2, -9, 6, -3, 7, 3), // temp came to 0
		399: lines(1, 9, 2, -9, 3, 11, 5, -12, 6, -2, 7, 3), 400: lines(1, 9, 2, -9, 3, 11, 5, -12, 6, -2, 7, 3),
		1 << 32: lines(1, 9, 2, -9, 3, 11, 5, -12, 6, -2, 7, 3), math.MaxInt: lines(1, 9, 2, -9, 3, 11, 5, -12, 6, -2, 7, 3),
	} {
		testBalances(t, s, "a", upto, want)
		testBalances(t, s, "b", upto, nil)
		for _, entity := range []string{"", "c", "ab", "B", "a\x00"} {
			testBalances(t, s, entity, upto, nil)
		}
	}
	testBalances(t, s, "A", 3, lines(1, 60, 2, -60))
	testBalances(t, s, "a ", 3, lines(1, 70, 2, -70))
	testBalances(t, s, "aa", 3, lines(1, 80, 2, -80))
	testBalances(t, s, "aa", 2, nil)
}

// TestTrialMany is of P7.1, Trial and Balance: more lines than journal.Merge takes, and sums that are not Money up to a period.
func TestTrialMany(t *testing.T) {
	s := store.New()
	for range api.MaxJournals / 2 { // the earlier period goes up, and the later one down
		if _, e := s.Post("a", 8, api.Provision, 0, lines(1, -m, 4, m-1, 7, 1)); e != api.OK {
			t.Fatal(e)
		}
		if _, e := s.Post("a", 3, api.Provision, 0, lines(1, m, 4, 1-m, 7, -1)); e != api.OK {
			t.Fatal(e)
		}
	}
	const n = api.MaxJournals / 2
	testBalances(t, s, "a", 2, nil)
	testBalances(t, s, "a", 3, lines(1, n*m, 4, n*(1-m), 7, -n))
	testBalances(t, s, "a", 7, lines(1, n*m, 4, n*(1-m), 7, -n))
	testBalances(t, s, "a", 8, nil)
	testBalances(t, s, "a", 1000, nil)
}

// TestClone is of P7.1, Clone: the same, and from then on independent, either way.
func TestClone(t *testing.T) {
	s := store.New()
	empty := s.Clone()
	mustPost(t, s, provision("a", 3, 1, 5, 2, -5), provision("b", 4), provision("a", 5, 1, m-5, 2, 5-m))
	for i := range 9 { // at whatever capacity
		was := stateOf(s)
		c, d := s.Clone(), s.Clone()
		if !reflect.DeepEqual(stateOf(c), was) || !reflect.DeepEqual(stateOf(d), was) {
			t.Error(i, stateOf(c), stateOf(d), was)
		}
		mustRefuse(t, c, api.ErrOver, provision("a", 3, 1, 1, 2, -1))
		mustPost(t, c, reversal("a", 3, 1, 1, -5, 2, 5), provision("c", 3, 1, 6, 2, -6))
		mustPost(t, d, provision("d", 9, 3, 7, 4, -7))
		mustRefuse(t, c, api.ErrThere, reversal("a", 3, 1, 1, -5, 2, 5))
		if !reflect.DeepEqual(stateOf(s), was) {
			t.Error(i, stateOf(s), was)
		}
		now := stateOf(c)
		mustPost(t, s, provision("z", 9, 3, 8, 4, -8))
		e := c.Clone()
		if !reflect.DeepEqual(stateOf(c), now) || !reflect.DeepEqual(stateOf(e), now) || len(d.Journals()) != len(was.Journals)+1 {
			t.Error(i, stateOf(c), now)
		}
	}
	if len(empty.Journals()) != 0 {
		t.Error(empty.Journals())
	}
	mustPost(t, empty, provision("e", 3))
}

// TestArgumentsMemory is of P7.1 and R4: what is posted is neither kept nor read or written behind its end.
func TestArgumentsMemory(t *testing.T) {
	s := store.New()
	all := lines(1, 5, 2, -5, 3, 9, 4, -9)
	was := slices.Clone(all)
	mustPost(t, s, post{"a", 3, api.Provision, 0, all[:2]}, post{"a", 3, api.Provision, 0, all[2:4]}, post{"a", 3, api.Provision, 0, all[:0]})
	back := lines(1, -5, 2, 5, 6, 6)
	mustPost(t, s, post{"a", 3, api.Reversal, 1, back[:2]})
	if !slices.Equal(all, was) || !slices.Equal(back, lines(1, -5, 2, 5, 6, 6)) {
		t.Error(all, back)
	}
	want := stateOf(s)
	overwrite(all)
	overwrite(back)
	if got := stateOf(s); !reflect.DeepEqual(got, want) {
		t.Error(got, want)
	}
}

func overwrite(l []api.Line) {
	l = l[:cap(l)]
	for i := range l {
		l[i] = api.Line{Account: -9, Amount: -9}
	}
}

// TestResultsMemory is of P7.1 and R4: whatever is done with what was returned, no later call and no other list can tell.
func TestResultsMemory(t *testing.T) {
	s := store.New()
	mustPost(t, s, provision("a", 3, 1, 5, 2, -5), provision("a", 3, 3, 6, 4, -6), provision("a", 4), reversal("a", 3, 1, 1, -5, 2, 5))
	c, want := s.Clone(), stateOf(s)
	first, second, trial := s.Journals(), s.Journals(), s.Trial("a", 9)
	for i := range first {
		overwrite(first[i].Lines)
		for _, j := range first[i+1:] {
			if !slices.Equal(j.Lines, want.Journals[j.Seq-1].Lines) {
				t.Error("two lists of one result share memory:", i, j)
			}
		}
	}
	whole := first[:cap(first)]
	for i := range whole {
		whole[i] = api.Journal{Seq: -9, Entity: "x", Of: 1}
	}
	overwrite(trial)
	for i, j := range second {
		if j.Seq != i+1 || !slices.Equal(j.Lines, want.Journals[i].Lines) {
			t.Error("two results share memory:", i, j)
		}
	}
	if !reflect.DeepEqual(stateOf(s), want) || !reflect.DeepEqual(stateOf(c), want) {
		t.Error(stateOf(s), stateOf(c), want)
	}
	mustRefuse(t, s, api.ErrThere, reversal("a", 3, 1, 1, -5, 2, 5))
	mustPost(t, s, reversal("a", 3, 2, 3, -6, 4, 6))
}

// model is a Store by the document's words alone: all lines of all journals, in a row.
type model struct {
	journals []api.Journal
}

func (o *model) balance(entity string, account, upto int) int {
	n := 0
	for _, j := range o.journals {
		for _, line := range j.Lines {
			if j.Entity == entity && j.Period <= upto && line.Account == account {
				n += line.Amount
			}
		}
	}
	return n
}

// refusals are all errors of a post whose entity, period and kind are right, and whose lines are a journal's.
func (o *model) refusals(x post) map[api.Errno]bool {
	all := map[api.Errno]bool{}
	all[api.ErrArg] = x.kind == api.Provision && x.of != 0
	if x.kind == api.Reversal {
		all[api.ErrNone] = true
		for _, j := range o.journals {
			if j.Seq == x.of && j.Entity == x.entity && j.Period == x.p && j.Kind == api.Provision {
				all[api.ErrNone] = false
				all[api.ErrForm] = !cancel(j.Lines, x.l)
			}
			all[api.ErrThere] = all[api.ErrThere] || j.Kind == api.Reversal && j.Of == x.of
		}
	}
	all[api.ErrLimit] = len(o.journals) == api.MaxJournals
	for _, line := range x.l {
		n := o.balance(x.entity, line.Account, math.MaxInt) + line.Amount
		all[api.ErrOver] = all[api.ErrOver] || n > m || n < -m
	}
	return all
}

// cancel tells whether each list is the other, negated.
func cancel(one, other []api.Line) bool {
	for i := range one {
		if len(other) != len(one) || one[i].Account != other[i].Account || one[i].Amount+other[i].Amount != 0 {
			return false
		}
	}
	return len(other) == len(one)
}

func (o *model) post(x post) (int, api.Errno) {
	all := o.refusals(x)
	for _, e := range []api.Errno{api.ErrArg, api.ErrNone, api.ErrThere, api.ErrForm, api.ErrLimit, api.ErrOver} {
		if all[e] {
			return 0, e
		}
	}
	o.journals = append(o.journals, api.Journal{Seq: len(o.journals) + 1, Entity: x.entity, Period: x.p, Kind: x.kind, Of: x.of, Lines: x.l})
	return len(o.journals), api.OK
}

// TestAgainstModel holds long runs of posts against the model, whose Store is now and then replaced by its Clone.
func TestAgainstModel(t *testing.T) {
	seed := 1
	next := func(n int) int {
		seed = (seed*48271 + 11) % 2147483647
		return seed % n
	}
	times := map[api.Errno]int{}
	for range 20 {
		s, o := store.New(), &model{}
		for range 900 {
			x := randomPost(next, o)
			wantSeq, want := o.post(x)
			if seq, e := s.Post(x.entity, x.p, x.kind, x.of, x.l); seq != wantSeq || e != want {
				t.Fatalf("Post(%v) = %d, %d; want %d, %d", x, seq, e, wantSeq, want)
			}
			times[want]++
			if next(40) == 0 {
				s = s.Clone()
			}
			entity, account, upto := []string{"a", "b", "c"}[next(3)], next(9), next(7)-1
			if got := s.Balance(entity, account, upto); got != o.balance(entity, account, upto) {
				t.Fatalf("Balance(%q, %d, %d) = %d; want %d", entity, account, upto, got, o.balance(entity, account, upto))
			}
		}
		if got := stateOf(s).Journals; !reflect.DeepEqual(got, o.journals) {
			t.Errorf("Journals = %v; want %v", got, o.journals)
		}
		testModelTrials(t, s, o)
	}
	for e := api.OK; e <= api.ErrOver; e++ {
		if times[e] < 100 {
			t.Error("of little use:", e, times[e])
		}
	}
}

// randomPost makes Reversals of what there is, with the lines they should have, most of the time.
func randomPost(next func(int) int, o *model) post {
	entity, p := []string{"a", "b"}[next(2)], next(5)
	if next(2) == 0 || len(o.journals) == 0 {
		amount := []int{1, -3, m / 3, -m / 3, m}[next(5)]
		x := provision(entity, p, 1+next(3), amount, 4+next(2), 2-amount, 6+next(2), -2)
		switch next(10) {
		case 0:
			x.l = nil
		case 1:
			x.of = 1
		}
		return x
	}
	j := o.journals[next(len(o.journals))]
	x := post{j.Entity, j.Period, api.Reversal, j.Seq, nil}
	for _, line := range j.Lines {
		x.l = append(x.l, api.Line{Account: line.Account, Amount: -line.Amount})
	}
	switch next(8) {
	case 0:
		x.entity = entity
	case 1:
		x.p = p
	case 2:
		x.of += next(7) - 3
	case 3:
		x.l = nil
	case 4:
		x.l = j.Lines
	}
	return x
}

func testModelTrials(t *testing.T, s *store.Store, o *model) {
	t.Helper()
	for _, entity := range []string{"a", "b", "c", ""} {
		for upto := -1; upto < 7; upto++ {
			var want []api.Line
			for account := -1; account < 10; account++ {
				if n := o.balance(entity, account, upto); n != 0 {
					want = append(want, api.Line{Account: account, Amount: n})
				}
			}
			testBalances(t, s, entity, upto, want)
		}
	}
}
