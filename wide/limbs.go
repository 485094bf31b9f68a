package wide

import (
	"math/bits"

	"tumbler/api"
)

// The limbs of an amount stand in an array, the lowest first.

// amount is whether a is below 0, and a without its sign.
func amount(a api.Wide) (bool, [2]uint64) {
	m := [2]uint64{a.Lo, uint64(a.Hi)}
	if a.Hi >= 0 {
		return false, m
	}
	return true, minus([2]uint64{}, m)
}

// signed is the number of that amount, below 0 or not.
func signed(neg bool, m [2]uint64) (api.Wide, api.Errno) {
	if neg {
		m = minus([2]uint64{}, m)
	}
	w := api.Wide{Hi: int64(m[1]), Lo: m[0]}
	// The sign bit is set just of what is below 0: else the amount was too great.
	if w != (api.Wide{}) && (w.Hi < 0) != neg {
		return api.Wide{}, api.ErrOver
	}
	return w, api.OK
}

// below tells whether a is below b.
func below(a, b [2]uint64) bool {
	return a[1] < b[1] || a[1] == b[1] && a[0] < b[0]
}

// minus is a - b, modulo 2^128.
func minus(a, b [2]uint64) [2]uint64 {
	var d [2]uint64
	var c uint64
	d[0], c = bits.Sub64(a[0], b[0], 0)
	d[1], _ = bits.Sub64(a[1], b[1], c)
	return d
}

// times is the product, and whether two limbs hold it.
func times(a, b [2]uint64) ([2]uint64, bool) {
	if a[1] != 0 && b[1] != 0 {
		return [2]uint64{}, false
	}
	hi, lo := bits.Mul64(a[0], b[0])
	over1, cross1 := bits.Mul64(a[1], b[0])
	over2, cross2 := bits.Mul64(a[0], b[1])
	// One of the two is 0, as one of the high limbs is.
	top, carry := bits.Add64(hi, cross1+cross2, 0)
	return [2]uint64{lo, top}, over1 == 0 && over2 == 0 && carry == 0
}

// divide is a / b and what is left; b is not 0.
func divide(a, b [2]uint64) ([2]uint64, [2]uint64) {
	if b[1] == 0 {
		q, r := divideBy(a, b[0])
		return q, [2]uint64{r, 0}
	}
	// The quotient has one limb: it is tried by the highest 64 bits of b, and then is at most one too small.
	n := uint(bits.LeadingZeros64(b[1]))
	high := b[1]<<n | b[0]>>1>>(63-n)
	try, _ := bits.Div64(a[1]>>1, a[1]<<63|a[0]>>1, high)
	try = try >> (63 - n)
	if try != 0 {
		try--
	}
	part, _ := times(b, [2]uint64{try, 0})
	r := minus(a, part)
	if !below(r, b) {
		try++
		r = minus(r, b)
	}
	return [2]uint64{try, 0}, r
}

// divideBy is a / d and what is left; d is not 0.
func divideBy(a [2]uint64, d uint64) ([2]uint64, uint64) {
	var q [2]uint64
	var r uint64
	q[1], r = bits.Div64(0, a[1], d)
	q[0], r = bits.Div64(r, a[0], d)
	return q, r
}
