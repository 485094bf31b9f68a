package wide

import (
	"math/bits"

	"tumbler/api"
)

// Print writes decimal digits.
func Print(a api.Wide) string {
	neg, m := amount(a)
	var text [40]byte // 39 digits and a sign
	at := len(text)
	for {
		var digit uint64
		m, digit = divideBy(m, 10)
		at--
		text[at] = byte('0' + digit)
		if m == ([2]uint64{}) {
			break
		}
	}
	if neg {
		at--
		text[at] = '-'
	}
	return string(text[at:])
}

// Parse reads them.
func Parse(s string) (api.Wide, api.Errno) {
	digits, neg := s, false
	if s != "" && s[0] == '-' {
		digits, neg = s[1:], true
	}
	if !plain(digits) || neg && digits == "0" {
		return api.Wide{}, api.ErrDigits
	}
	m, ok := read(digits)
	if !ok {
		return api.Wide{}, api.ErrOver
	}
	return signed(neg, m)
}

// plain tells whether s is digits without zeros ahead.
func plain(s string) bool {
	if s == "" || s[0] == '0' && s != "0" {
		return false
	}
	for i := range len(s) {
		if s[i] < '0' || s[i] > '9' {
			return false
		}
	}
	return true
}

// read is the number of digits, and whether two limbs hold it.
func read(digits string) ([2]uint64, bool) {
	var m [2]uint64
	for i := range len(digits) {
		tenfold, ok := times(m, [2]uint64{10, 0})
		low, carry := bits.Add64(tenfold[0], uint64(digits[i]-'0'), 0)
		high, over := bits.Add64(tenfold[1], 0, carry)
		if !ok || over != 0 {
			return [2]uint64{}, false
		}
		m = [2]uint64{low, high}
	}
	return m, true
}
