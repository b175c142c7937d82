package period_test

import (
	"fmt"
	"math"
	"testing"

	"scutage/api"
	"scutage/period"
)

// beyond are numbers that denote neither a period nor a year.
var beyond = []int{
	-1, -2, -4, -5, -400, 400, 401, 404, 1000, 1 << 31, 1 << 32, 1 << 62,
	math.MaxInt, math.MaxInt - 1, math.MinInt, math.MinInt + 1, math.MinInt + 4,
}

// TestRight is of P3.1, Right.
func TestRight(t *testing.T) {
	for p := range api.MaxPeriod + 1 {
		if !period.Right(p) {
			t.Errorf("Right(%d) = false", p)
		}
	}
	for _, p := range beyond {
		if period.Right(p) {
			t.Errorf("Right(%d) = true", p)
		}
	}
}

// TestYear is of P3.1, Year: ordinary periods, the ends of years, and all of them in turn.
func TestYear(t *testing.T) {
	for p, want := range map[int]int{0: 0, 1: 0, 2: 0, 3: 0, 4: 1, 7: 1, 8: 2, 14: 3, 39: 9, 40: 10, 395: 98, 396: 99, 399: 99} {
		if got := period.Year(p); got != want {
			t.Errorf("Year(%d) = %d; want %d", p, got, want)
		}
	}
	for year := range api.MaxYear + 1 {
		for quarter := range 4 {
			if got := period.Year(year*4 + quarter); got != year {
				t.Errorf("Year(%d) = %d; want %d", year*4+quarter, got, year)
			}
		}
	}
}

// TestFirst is of P3.1, First.
func TestFirst(t *testing.T) {
	for year, want := range map[int]int{0: 0, 1: 4, 2: 8, 3: 12, 10: 40, 98: 392, 99: 396} {
		if got := period.First(year); got != want {
			t.Errorf("First(%d) = %d; want %d", year, got, want)
		}
	}
	for year := range api.MaxYear + 1 {
		first := period.First(year)
		if period.Year(first) != year || first > 0 && period.Year(first-1) != year-1 {
			t.Errorf("First(%d) = %d", year, first)
		}
	}
}

// TestBeyond is of P3.1 and R8: what is below 0 or beyond the bounds has neither a year, a first period nor a text.
func TestBeyond(t *testing.T) {
	for _, n := range beyond {
		if got := period.Year(n); got != -1 {
			t.Errorf("Year(%d) = %d", n, got)
		}
		if got := period.First(n); got != -1 {
			t.Errorf("First(%d) = %d", n, got)
		}
		if got := period.Text(n); got != "" {
			t.Errorf("Text(%d) = %q", n, got)
		}
	}
	for _, year := range []int{100, 101, 396, 399} { // periods, but not years
		if got := period.First(year); got != -1 {
			t.Errorf("First(%d) = %d", year, got)
		}
	}
}

// TestText is of P3.1, Text: the document's and the ends of quarters, years and decades.
func TestText(t *testing.T) {
	for p, want := range map[int]string{
		14: "2003q3", // the document's
		0:  "2000q1", 1: "2000q2", 2: "2000q3", 3: "2000q4", 4: "2001q1",
		39: "2009q4", 40: "2010q1", 399: "2099q4",
	} {
		if got := period.Text(p); got != want {
			t.Errorf("Text(%d) = %q; want %q", p, got, want)
		}
	}
	for want, p := range texts() {
		if got := period.Text(p); got != want {
			t.Errorf("Text(%d) = %q; want %q", p, got, want)
		}
	}
}

// texts returns every period by its text.
func texts() map[string]int {
	all := map[string]int{}
	for year := range 100 {
		for quarter := range 4 {
			all[fmt.Sprintf("20%02dq%d", year, quarter+1)] = year*4 + quarter
		}
	}
	return all
}

func checkParse(t *testing.T, all map[string]int, s string) {
	t.Helper()
	want, is := all[s]
	if p, ok := period.Parse(s); p != want || ok != is {
		t.Errorf("Parse(%q) = %d, %t; want %d, %t", s, p, ok, want, is)
	}
}

// TestParse is of P3.1, Parse: every text of a period.
func TestParse(t *testing.T) {
	all := texts()
	for s, want := range all {
		if p, ok := period.Parse(s); p != want || !ok {
			t.Errorf("Parse(%q) = %d, %t; want %d", s, p, ok, want)
		}
	}
	if p, ok := period.Parse("2003q3"); p != 14 || !ok {
		t.Error("2003q3", p, ok)
	}
}

// TestParseRefuses is of P3.1, Parse: what nearly is a text, and what is far from it.
func TestParseRefuses(t *testing.T) {
	for _, s := range []string{
		"",                                     // the Text of what isn't a period
		"2003q0", "2003q5", "2003q9", "2000q0", // 2000q0 would be -1
		"2003Q3", "2003-3", "2003 3", "200303",
		"2100q1", "1999q4", "1900q1", "3000q1", "0003q3",
		"03q3", "2003", "2003q", "2003q03", "20003q3", "003q3", "2003q33", "2003q3q",
		" 2003q3", "2003q3 ", "2003q3\n", "2003q3\x00", "\x002003q3", " 003q3",
		"20 3q3", "20-1q1", "20+3q3", "20-3q3", "200xq3", "20xxqx", "20YYqN",
		"200:q1", "20:0q1", "20/:q1", "200/q4", "201/q1", "2003q/", "2003q:", "20\xff0q1", "2003q\xff", "2003q\x80",
		"20:0q-", "2003q\u0663", "20\u0663q3", "\uff12\uff10", "٢٠٠٣q٣",
	} {
		if p, ok := period.Parse(s); p != 0 || ok {
			t.Errorf("Parse(%q) = %d, %t", s, p, ok)
		}
	}
}

// TestParseNear is of P3.1, Parse: every text with one byte changed, left out or put in.
func TestParseNear(t *testing.T) {
	all := texts()
	for s := range all {
		for i := range s {
			checkParse(t, all, s[:i]+s[i+1:])
			for b := range 256 {
				checkParse(t, all, s[:i]+string([]byte{byte(b)})+s[i+1:])
				checkParse(t, all, s[:i]+string([]byte{byte(b)})+s[i:])
			}
		}
		checkParse(t, all, s+"0")
	}
}
