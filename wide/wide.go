// Package wide is layer 1: whole numbers of 128 bits.
package wide

import (
	"math/bits"

	"tumbler/api"
)

// Of is a number.
func Of(n int64) api.Wide {
	return api.Wide{Hi: n >> 63, Lo: uint64(n)}
}

// Small is the number as an int64, if it is one.
func Small(a api.Wide) (int64, bool) {
	n := int64(a.Lo)
	if Of(n) != a {
		return 0, false
	}
	return n, true
}

// Cmp is -1, 0 or 1: a is below b, the same, above.
func Cmp(a, b api.Wide) int {
	switch {
	case a == b:
		return 0
	case a.Hi < b.Hi || a.Hi == b.Hi && a.Lo < b.Lo:
		return -1
	}
	return 1
}

// Sign is -1, 0 or 1.
func Sign(a api.Wide) int {
	return Cmp(a, api.Wide{})
}

// Add is the sum.
func Add(a, b api.Wide) (api.Wide, api.Errno) {
	return Sum(a, b)
}

// Sub is the difference.
func Sub(a, b api.Wide) (api.Wide, api.Errno) {
	// -b may have no room where a - b has; -1 - b always has.
	return Sum(a, api.Wide{Hi: ^b.Hi, Lo: ^b.Lo}, Of(1))
}

// Neg is the number with the other sign.
func Neg(a api.Wide) (api.Wide, api.Errno) {
	return Sub(api.Wide{}, a)
}

// Abs is the number without its sign.
func Abs(a api.Wide) (api.Wide, api.Errno) {
	if Sign(a) < 0 {
		return Neg(a)
	}
	return a, api.OK
}

// Mul is the product.
func Mul(a, b api.Wide) (api.Wide, api.Errno) {
	negA, ma := amount(a)
	negB, mb := amount(b)
	m, ok := times(ma, mb)
	if !ok {
		return api.Wide{}, api.ErrOver
	}
	return signed(negA != negB, m)
}

// Quo is the quotient, cut towards 0, and what is left.
func Quo(a, b api.Wide) (api.Wide, api.Wide, api.Errno) {
	if Sign(b) == 0 {
		return api.Wide{}, api.Wide{}, api.ErrZero
	}
	negA, ma := amount(a)
	negB, mb := amount(b)
	mq, mr := divide(ma, mb)
	q, err := signed(negA != negB, mq)
	if err != api.OK {
		return api.Wide{}, api.Wide{}, err
	}
	r, err := signed(negA, mr)
	if err != api.OK {
		return api.Wide{}, api.Wide{}, err
	}
	return q, r, api.OK
}

// Sum is the sum of all.
func Sum(l ...api.Wide) (api.Wide, api.Errno) {
	// A third limb holds what sums of some leave 128 bits by on the way.
	var s [3]uint64
	for _, a := range l {
		var c uint64
		s[0], c = bits.Add64(s[0], a.Lo, 0)
		s[1], c = bits.Add64(s[1], uint64(a.Hi), c)
		s[2], _ = bits.Add64(s[2], uint64(a.Hi>>63), c)
	}
	w := api.Wide{Hi: int64(s[1]), Lo: s[0]}
	if s[2] != uint64(w.Hi>>63) {
		return api.Wide{}, api.ErrOver
	}
	return w, api.OK
}

// Root is the square root, cut.
func Root(a api.Wide) (api.Wide, api.Errno) {
	if Sign(a) < 0 {
		return api.Wide{}, api.ErrNeg
	}
	_, m := amount(a)
	var r uint64
	for i := 63; i >= 0; i-- {
		try := r | 1<<i
		var sq [2]uint64
		sq[1], sq[0] = bits.Mul64(try, try)
		if !below(m, sq) {
			r = try
		}
	}
	return api.Wide{Lo: r}, api.OK
}
