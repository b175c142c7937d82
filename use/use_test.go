package use_test

import (
	"math"
	"math/big"
	"math/rand"
	"slices"
	"testing"

	"scutage/api"
	"scutage/use"
	"scutage/vintage"
)

const (
	most  = api.MaxMoney
	whole = api.MaxRate
	last  = 2 * api.MaxYear
)

// wrong numbers of each kind: just past what may be, far past it, and what goes round when it is multiplied.
var (
	wrongIncome = []int{0, -1, -2, -most, -most - 1, most + 1, most + 2, 2 * most, 1 << 40, 1 << 44, 1 << 62, -(1 << 62), math.MaxInt, math.MinInt, math.MinInt + 1}
	wrongCap    = []int{-1, -2, -whole, whole + 1, whole + 2, 2 * whole, api.MaxFx, 1 << 32, 1<<32 + 5, 1 << 62, math.MaxInt, math.MinInt, math.MinInt + 1}
)

func v(origin, expiry, left int) api.Vintage {
	return api.Vintage{Origin: origin, Expiry: expiry, Left: left}
}

func mustRoom(t *testing.T, income, cap, want int) {
	t.Helper()
	if got := use.Room(income, cap); got != want {
		t.Errorf("Room(%d, %d) = %d; want %d", income, cap, got, want)
	}
}

// mustUse holds what is used of each row, and its sum, and that the rows that were handed in stay as they are.
func mustUse(t *testing.T, rows []api.Vintage, year, room int, want ...int) {
	t.Helper()
	given := slices.Clone(rows)
	got := use.Vector(rows, year, room)
	if !slices.Equal(got, want) {
		t.Errorf("Vector(%v, %d, %d) = %v; want %v", given, year, room, got, want)
	}
	if !slices.Equal(rows, given) {
		t.Errorf("Vector has made %v %v", given, rows)
	}
	sum := 0
	for _, n := range want {
		sum += n
	}
	mustSum(t, sum, got...)
}

func mustSum(t *testing.T, want int, vector ...int) {
	t.Helper()
	given := slices.Clone(vector)
	if got := use.Used(vector...); got != want {
		t.Errorf("Used(%v) = %d; want %d", given, got, want)
	}
	if !slices.Equal(vector, given) {
		t.Errorf("Used has made %v %v", given, vector)
	}
}

// someRows returns the rows of Losses to which up to MaxVintages were added.
func someRows(t *testing.T, r *rand.Rand, years, greatest int) []api.Vintage {
	t.Helper()
	l := vintage.New()
	for range r.Intn(api.MaxVintages + 1) {
		origin := r.Intn(years)
		if e := l.Add(origin, origin+r.Intn(years), 1+r.Intn(greatest)); e != api.OK {
			t.Fatal(e)
		}
	}
	return l.Rows()
}

// TestRoom is of P14.1, Room: the share of the income, rounded down, from nothing to the whole.
func TestRoom(t *testing.T) {
	mustRoom(t, 100, 500000, 50)
	mustRoom(t, 101, 500000, 50)
	mustRoom(t, 41, 600000, 24)
	mustRoom(t, 99, 800000, 79)
	mustRoom(t, 1, 0, 0)
	mustRoom(t, 1, 1, 0)
	mustRoom(t, 1, whole-1, 0)
	mustRoom(t, 1, whole, 1)
	mustRoom(t, 999999, 1, 0)
	mustRoom(t, 1000000, 1, 1)
	mustRoom(t, 1999999, 1, 1)
	mustRoom(t, 2000000, 1, 2)
	mustRoom(t, most-1, whole, most-1)
	mustRoom(t, most, whole, most)
	mustRoom(t, most, whole-1, most-100000)
	mustRoom(t, most-1, whole-1, most-100001)
	mustRoom(t, most, 1, 100000)
	mustRoom(t, most-1, 1, 99999)
	mustRoom(t, most, 0, 0)
}

// TestRoomWrong is of P14.1, Room: no room where the income is below 1 or not Money, or the cap is no rate; each alone, and both.
func TestRoomWrong(t *testing.T) {
	for _, income := range wrongIncome {
		for _, cap := range append([]int{0, 1, 500000, whole - 1, whole}, wrongCap...) {
			mustRoom(t, income, cap, 0)
		}
	}
	for _, cap := range wrongCap {
		for _, income := range []int{1, 2, 5, 1000000, most - 1, most} {
			mustRoom(t, income, cap, 0)
		}
	}
}

// TestRoomShare is of P14.1, Room: random incomes and caps against numbers without bounds.
func TestRoomShare(t *testing.T) {
	r := rand.New(rand.NewSource(14))
	for range 20000 {
		income, cap := 1+r.Intn(most), r.Intn(whole+1)
		if r.Intn(2) == 0 {
			income = 1 + r.Intn(3000000)
		}
		share := new(big.Int).Mul(big.NewInt(int64(income)), big.NewInt(int64(cap)))
		mustRoom(t, income, cap, int(share.Div(share, big.NewInt(whole)).Int64()))
	}
}

// TestVector is of P14.1, Vector: each room there is in a year, up to more than all that is left.
func TestVector(t *testing.T) {
	rows := []api.Vintage{v(1, 4, 2), v(0, 6, 3), v(2, 6, 1), v(3, 9, 2)}
	all := [][]int{{0, 0, 0, 0}, {1, 0, 0, 0}, {2, 0, 0, 0}, {2, 1, 0, 0}, {2, 2, 0, 0}, {2, 3, 0, 0}, {2, 3, 1, 0}, {2, 3, 1, 1}, {2, 3, 1, 2}}
	without := [][]int{{0, 0, 0, 0}, {0, 1, 0, 0}, {0, 2, 0, 0}, {0, 3, 0, 0}, {0, 3, 1, 0}, {0, 3, 1, 1}, {0, 3, 1, 2}}
	for room := range 20 {
		mustUse(t, rows, 4, room, all[min(room, 8)]...)
		mustUse(t, rows, 5, room, without[min(room, 6)]...)
		mustUse(t, rows, 7, room, 0, 0, 0, min(room, 2))
		mustUse(t, rows, 10, room, 0, 0, 0, 0)
	}
	mustUse(t, []api.Vintage{v(5, 9, 11)}, 9, 10, 10)
	mustUse(t, []api.Vintage{v(5, 9, 11)}, 9, 11, 11)
	mustUse(t, []api.Vintage{v(5, 9, 11)}, 9, 12, 11)
}

// TestVectorNone is of P14.1, Vector: of no rows nothing is used, nil or not.
func TestVectorNone(t *testing.T) {
	for _, rows := range [][]api.Vintage{nil, {}, vintage.New().Rows()} {
		for _, year := range []int{math.MinInt, -1, 0, 1, 99, last, math.MaxInt} {
			for _, room := range []int{math.MinInt, -1, 0, 1, most, math.MaxInt} {
				mustUse(t, rows, year, room)
			}
		}
	}
}

// TestVectorRoom is of P14.1, Vector: a room below 0 is none, and one beyond Money takes all that there is.
func TestVectorRoom(t *testing.T) {
	small, great := []api.Vintage{v(1, 4, 5), v(2, 6, 7)}, []api.Vintage{v(1, 4, most-7), v(2, 6, 7)}
	for _, room := range []int{0, -1, -2, -5, -12, -most, -most - 1, -1 << 32, -1 << 62, math.MinInt, math.MinInt + 1} {
		mustUse(t, small, 4, room, 0, 0)
		mustUse(t, great, 4, room, 0, 0)
	}
	for _, room := range []int{most, most + 1, 2 * most, 1 << 62, math.MaxInt - 1, math.MaxInt} {
		mustUse(t, small, 4, room, 5, 7)
		mustUse(t, small, 5, room, 0, 7)
		mustUse(t, great, 4, room, most-7, 7)
		mustUse(t, great, 5, room, 0, 7)
	}
	mustUse(t, great, 4, most-8, most-8, 0)
	mustUse(t, great, 4, most-7, most-7, 0)
	mustUse(t, great, 4, most-6, most-7, 1)
	mustUse(t, great, 4, most-1, most-7, 6)
	mustUse(t, []api.Vintage{v(99, last, most)}, 99, most-1, most-1)
}

// TestVectorYear is of P14.1, Vector: a loss may be used in the year of its expiry and in no later one, whatever its origin is; a year is a number, also where there is no such year.
func TestVectorYear(t *testing.T) {
	rows := []api.Vintage{v(0, 0, 1), v(0, 1, 2), v(50, 50, 4), v(7, 99, 8), v(99, 99, 16), v(99, 100, 32), v(0, last, 64)}
	years := []int{math.MinInt, math.MinInt + 9, -1 << 32, -2, -1, 1 << 31, 1 << 32, 1<<32 + 5, 1 << 62, math.MaxInt - 1, math.MaxInt}
	for year := range last + 3 {
		years = append(years, year)
	}
	for _, year := range years {
		want := make([]int, len(rows))
		for i, x := range rows {
			if x.Expiry >= year {
				want[i] = x.Left
			}
		}
		mustUse(t, rows, year, 127, want...)
	}
}

// TestVectorMemory is of R4: what lies behind the rows isn't read or written, and each answer is new.
func TestVectorMemory(t *testing.T) {
	memory := []api.Vintage{v(1, 4, 5), v(2, 6, 7), v(3, 9, 100), v(4, 10, 200)}
	given := slices.Clone(memory)
	mustUse(t, memory[:2], 4, 1000, 5, 7)
	mustUse(t, memory[1:2], 4, 1000, 7)
	mustUse(t, memory[:0], 4, 1000)
	if !slices.Equal(memory, given) {
		t.Errorf("Vector wrote %v", memory)
	}
	first, second := use.Vector(memory, 4, 300), use.Vector(memory, 4, 300)
	for i := range first {
		first[i] = -1
	}
	_ = append(first, -2)
	clear(memory)
	if !slices.Equal(second, []int{5, 7, 100, 188}) {
		t.Errorf("a list that was handed out became %v", second)
	}
}

// TestUsed is of P14.1, Used: the sum of any numbers, however many there are.
func TestUsed(t *testing.T) {
	mustSum(t, 0)
	mustSum(t, 0, 0)
	mustSum(t, 5, 5)
	mustSum(t, 24, 19, 5)
	mustSum(t, 10, 1, 2, 3, 4)
	mustSum(t, 10, 4, 3, 2, 1)
	mustSum(t, 6, 0, 5, 0, 1, 0)
	mustSum(t, most, most-1, 1)
	mustSum(t, -3, 2, -5)
	mustSum(t, most+1, most, 1) // no Money, but a sum
	mustSum(t, most+1, most+1)
	mustSum(t, math.MaxInt, math.MaxInt)
	mustSum(t, math.MaxInt, math.MaxInt, math.MaxInt, -math.MaxInt)
	mustSum(t, math.MinInt, math.MinInt)
	mustSum(t, -1, math.MaxInt, math.MinInt)
	mustSum(t, 100000*most, slices.Repeat([]int{most}, 100000)...)
	memory := []int{1, 2, 4, 8}
	mustSum(t, 3, memory[:2]...)
	mustSum(t, 6, memory[1:3]...)
	if !slices.Equal(memory, []int{1, 2, 4, 8}) {
		t.Errorf("Used wrote %v", memory)
	}
}

// choices returns every vector with so much or less of each row.
func choices(rows []api.Vintage) [][]int {
	all := [][]int{nil}
	for _, x := range rows {
		var longer [][]int
		for _, vector := range all {
			for n := range x.Left + 1 {
				longer = append(longer, append(slices.Clone(vector), n))
			}
		}
		all = longer
	}
	return all
}

// allowed is P14.2 but for the greatest use: nothing of what is expired, and nothing of a row while something is left of an earlier one that is not.
func allowed(rows []api.Vintage, year int, vector []int) bool {
	earlierLeft := false
	for i, x := range rows {
		if vector[i] > 0 && (x.Expiry < year || earlierLeft) {
			return false
		}
		if x.Expiry >= year && vector[i] < x.Left {
			earlierLeft = true
		}
	}
	return true
}

// greatestUse returns those of the allowed vectors that use as much of the room as any of them does.
func greatestUse(rows []api.Vintage, year, room int) [][]int {
	var best [][]int
	greatest := -1
	for _, vector := range choices(rows) {
		sum := 0
		for _, n := range vector {
			sum += n
		}
		if sum > room || sum < greatest || !allowed(rows, year, vector) {
			continue
		}
		if sum > greatest {
			best, greatest = nil, sum
		}
		best = append(best, vector)
	}
	return best
}

// TestOnlyVector is of P14.2: of every vector there could be, just one is as it says, and it is Vector's.
func TestOnlyVector(t *testing.T) {
	lists := [][]api.Vintage{
		{v(0, 1, 3)},
		{v(0, 1, 2), v(1, 1, 2)},
		{v(2, 3, 1), v(0, 4, 3), v(4, 4, 2), v(3, 5, 2)},
		{v(0, 2, 2), v(1, 2, 1), v(2, 2, 1), v(0, 3, 2), v(1, 4, 1)},
	}
	for _, rows := range lists {
		for year := range 7 {
			for room := range 12 {
				best := greatestUse(rows, year, room)
				if len(best) != 1 {
					t.Fatalf("%v, year %d, room %d: %v", rows, year, room, best)
				}
				mustUse(t, rows, year, room, best[0]...)
			}
		}
	}
}

// TestVectorTotal is of P14.1 and P14.2: random rows, great ones too: the total is the room or everything that there is, and the earliest go first.
func TestVectorTotal(t *testing.T) {
	r := rand.New(rand.NewSource(14))
	for i := range 5000 {
		greatest := 20
		if i%2 == 0 {
			greatest = most / api.MaxVintages
		}
		rows := someRows(t, r, 8, greatest)
		year, there := r.Intn(16), 0
		for _, x := range rows {
			if x.Expiry >= year {
				there += x.Left
			}
		}
		room := r.Intn(there + there/4 + 2)
		vector := use.Vector(rows, year, room)
		if len(vector) != len(rows) {
			t.Fatalf("Vector(%v, %d, %d) = %v", rows, year, room, vector)
		}
		for j, n := range vector {
			if n < 0 || n > rows[j].Left {
				t.Fatalf("Vector(%v, %d, %d) = %v", rows, year, room, vector)
			}
		}
		if !allowed(rows, year, vector) {
			t.Errorf("Vector(%v, %d, %d) = %v", rows, year, room, vector)
		}
		mustSum(t, min(room, there), vector...)
	}
}

// TestLosses is of T4: over the years, what is used is at most what is left and at most what the cap allows, the earliest first, and every loss was used, or expired, or is left.
func TestLosses(t *testing.T) {
	r := rand.New(rand.NewSource(4))
	carriedAll, usedAll, expiredAll := 0, 0, 0
	for range 200 {
		l := vintage.New()
		carried, used, expired := 0, 0, 0
		for year := range api.MaxYear + 1 {
			expired += l.Expire(year)
			income, cap := r.Intn(2000)-1000, []int{0, 300000, 800000, whole}[r.Intn(4)]
			if income < 0 {
				if e := l.Add(year, year+r.Intn(6), -income); e != api.OK {
					t.Fatal(e)
				}
				carried -= income
			}
			rows := l.Rows()
			vector := use.Vector(rows, year, use.Room(income, cap))
			n := use.Used(vector...)
			if want := min(l.Left(), max(income, 0)*cap/whole); n != want || !allowed(rows, year, vector) {
				t.Fatalf("%v, year %d, income %d, cap %d: %v is used; want %d", rows, year, income, cap, vector, want)
			}
			if e := l.Take(vector); e != api.OK {
				t.Fatalf("%v: Take(%v) = %d", rows, vector, e)
			}
			used += n
			if carried != used+expired+l.Left() {
				t.Fatalf("year %d: of %d, %d was used, %d expired, %d is left", year, carried, used, expired, l.Left())
			}
		}
		carriedAll, usedAll, expiredAll = carriedAll+carried, usedAll+used, expiredAll+expired
	}
	if usedAll < carriedAll/10 || expiredAll < carriedAll/10 {
		t.Errorf("of %d, only %d was used, and %d expired", carriedAll, usedAll, expiredAll)
	}
}
