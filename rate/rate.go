// Package rate takes shares of amounts of money, and sums them.
package rate

import (
	"math/bits"

	"scutage/api"
)

// whole is the rate at which the share of an amount is all of it.
const whole = api.MaxRate

// Money reports whether n is an amount of money.
func Money(n int) bool {
	return -api.MaxMoney <= n && n <= api.MaxMoney
}

// Right reports whether rate is from nothing to the whole.
func Right(rate int) bool {
	return 0 <= rate && rate <= api.MaxRate
}

// Of returns the share of n at the rate, rounded to the nearest integer,
// halves away from 0. It takes more than Money and more than the whole, as
// sums of shares and rates of currencies need.
func Of(n, rate int) (int, bool) {
	if n < -4*api.MaxMoney || n > 4*api.MaxMoney || rate < 0 || rate > api.MaxFx {
		return 0, false
	}
	// Division cuts towards 0, so the half must be added on n's own side.
	half := whole / 2
	if n < 0 {
		half = -half
	}
	return (n*rate + half) / whole, true
}

// Floor returns the share of n at the rate, rounded down.
func Floor(n, rate int) (int, bool) {
	if n < 0 || !Money(n) || !Right(rate) {
		return 0, false
	}
	return n * rate / whole, true
}

// Sum returns the sum of amounts of money, if it is Money, too.
func Sum(l ...int) (int, bool) {
	var total wide
	for _, n := range l {
		if !Money(n) {
			return 0, false
		}
		total = total.plus(n)
	}
	return total.money()
}

// Least returns the least of the arguments.
func Least(l ...int) (int, bool) {
	if len(l) == 0 {
		return 0, false
	}
	least := l[0]
	for _, n := range l[1:] {
		least = min(least, n)
	}
	return least, true
}

// wide is a number of 128 bits in two's complement: a list may be so long
// that its sum goes round an int, and would look like Money again.
type wide struct{ high, low uint64 }

func (w wide) plus(n int) wide {
	low, carry := bits.Add64(w.low, uint64(n), 0)
	high, _ := bits.Add64(w.high, signs(n), carry)
	return wide{high, low}
}

func (w wide) money() (int, bool) {
	n := int(w.low)
	if w.high != signs(n) || !Money(n) {
		return 0, false
	}
	return n, true
}

// signs returns the upper half of n in 128 bits: its sign, repeated.
func signs(n int) uint64 {
	return uint64(n >> 63)
}
