package chart_test

import (
	"math"
	"slices"
	"strings"
	"testing"

	"scutage/api"
	"scutage/chart"
)

type account struct {
	number int
	name   string
	cost   bool
}

// accounts are those of the document, in ascending order.
var accounts = []account{
	{api.CurrentCost, "current", true},
	{api.Payable, "payable", false},
	{api.DeferredCost, "deferred", true},
	{api.TempBalance, "temp", false},
	{api.LossBalance, "losses", false},
	{api.Allowance, "allowance", false},
	{api.TrueUpCost, "trueup", true},
}

// none are numbers that denote no account.
var none = []int{
	0, -1, -2, -3, -7, -8, 8, 9, 10, 11, 15, 16, 64, 100, 127, 128,
	1<<8 + api.CurrentCost, 1<<16 + api.DeferredCost, 1<<32 + api.CurrentCost, 1<<32 + api.TrueUpCost, 1<<63 - 1<<32 + api.DeferredCost,
	math.MaxInt, math.MaxInt - 1, math.MinInt, math.MinInt + api.CurrentCost, math.MinInt + api.TrueUpCost,
}

// TestName is of P5.1, Name: every account.
func TestName(t *testing.T) {
	for _, a := range accounts {
		if got := chart.Name(a.number); got != a.name {
			t.Errorf("Name(%d) = %q; want %q", a.number, got, a.name)
		}
	}
	if got := chart.Name(2); got != "payable" { // the document's
		t.Errorf("Name(2) = %q", got)
	}
}

// TestNameNone is of P5.1, Name: what is no account has no name.
func TestNameNone(t *testing.T) {
	for _, n := range none {
		if got := chart.Name(n); got != "" {
			t.Errorf("Name(%d) = %q", n, got)
		}
	}
	for n := 8; n < 5000; n++ {
		if up, down := chart.Name(n), chart.Name(-n); up != "" || down != "" {
			t.Errorf("Name(%d) = %q, Name(%d) = %q", n, up, -n, down)
		}
	}
}

// TestOf is of P5.1, Of: every name, be its bytes where they may.
func TestOf(t *testing.T) {
	for _, a := range accounts {
		for _, name := range []string{a.name, strings.Clone(a.name), (" " + a.name + "s")[1 : 1+len(a.name)]} {
			if got, ok := chart.Of(name); got != a.number || !ok {
				t.Errorf("Of(%q) = %d, %t; want %d, true", name, got, ok, a.number)
			}
		}
	}
}

// TestOfNone is of P5.1, Of: what names no account.
func TestOfNone(t *testing.T) {
	for _, name := range []string{
		"", " ", "\x00", "x", "1", "7", "none", "cost", "loss", "payables", "true-up", "true up", "deferred cost",
		"CurrentCost", "Payable", "DeferredCost", "TempBalance", "LossBalance", "Allowance", "TrueUpCost",
		"currentpayable", "current payable", "cürrent", "current\xff", "tem\u0440", strings.Repeat("temp", 1000),
	} {
		refuse(t, name)
	}
}

// TestOfNear is of P5.1, Of: each name with one byte changed, left out or put in names no account.
func TestOfNear(t *testing.T) {
	for _, a := range accounts {
		refuse(t, strings.ToUpper(a.name))
		refuse(t, a.name+a.name)
		for i := range len(a.name) {
			head, tail := a.name[:i], a.name[i+1:]
			refuse(t, head)
			refuse(t, head+tail)
			for b := range 256 {
				if byte(b) != a.name[i] {
					refuse(t, head+string([]byte{byte(b)})+tail)
				}
			}
		}
		for i := range len(a.name) + 1 {
			for b := range 256 {
				refuse(t, a.name[:i]+string([]byte{byte(b)})+a.name[i:])
			}
		}
	}
}

func refuse(t *testing.T, name string) {
	t.Helper()
	if got, ok := chart.Of(name); got != 0 || ok {
		t.Errorf("Of(%q) = %d, %t", name, got, ok)
	}
}

// TestCost is of P5.1, Cost: every account, and what is none.
func TestCost(t *testing.T) {
	for _, a := range accounts {
		if got := chart.Cost(a.number); got != a.cost {
			t.Errorf("Cost(%d) = %t", a.number, got)
		}
	}
	for _, n := range none {
		if chart.Cost(n) {
			t.Errorf("Cost(%d) = true", n)
		}
	}
	for n := 8; n < 5000; n++ {
		if chart.Cost(n) || chart.Cost(-n) {
			t.Errorf("Cost(%d) = %t, Cost(%d) = %t", n, chart.Cost(n), -n, chart.Cost(-n))
		}
	}
}

// TestAccounts is of P5.1, Accounts: all of them, in ascending order.
func TestAccounts(t *testing.T) {
	want := []int{1, 2, 3, 4, 5, 6, 7}
	if got := chart.Accounts(); !slices.Equal(got, want) {
		t.Errorf("Accounts() = %v; want %v", got, want)
	}
	for i, a := range accounts {
		if got := chart.Accounts(); got[i] != a.number {
			t.Errorf("Accounts()[%d] = %d; want %d", i, got[i], a.number)
		}
	}
}

// TestAccountsMemory is of P5.1 and R4: each list of accounts is new memory, beyond its length, too.
func TestAccountsMemory(t *testing.T) {
	first, second := chart.Accounts(), chart.Accounts()
	want := slices.Clone(first)
	whole := first[:cap(first)]
	for i := range whole {
		whole[i] = -1
	}
	_ = append(first[:0], 9, 9, 9)
	if !slices.Equal(second, want) || !slices.Equal(chart.Accounts(), want) {
		t.Errorf("after a list was written: %v, %v", second, chart.Accounts())
	}
	for _, a := range accounts {
		if got, ok := chart.Of(a.name); got != a.number || !ok || chart.Name(a.number) != a.name || chart.Cost(a.number) != a.cost {
			t.Errorf("after a list was written: account %d is %q, of %d", a.number, chart.Name(a.number), got)
		}
	}
}
