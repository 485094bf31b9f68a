// Package octets holds whole numbers as bytes, and the sum that files end with.
package octets

// Append puts the lowest n bytes of v behind b, the highest first.
func Append(b []byte, v uint64, n int) []byte {
	for i := n - 1; i >= 0; i-- {
		b = append(b, byte(v>>(8*i)))
	}
	return b
}

// AppendLow puts the lowest n bytes of v behind b, the lowest first.
func AppendLow(b []byte, v uint64, n int) []byte {
	for i := range n {
		b = append(b, byte(v>>(8*i)))
	}
	return b
}

// Read is the number of at most 8 bytes, the highest first.
func Read(b []byte) uint64 {
	var v uint64
	for _, x := range b {
		v = v<<8 | uint64(x)
	}
	return v
}

// ReadLow is the number of at most 8 bytes, the lowest first.
func ReadLow(b []byte) uint64 {
	var v uint64
	for i, x := range b {
		v |= uint64(x) << (8 * i)
	}
	return v
}

// Sum is FNV-1a of 32 bits.
func Sum(b []byte) uint32 {
	h := uint32(2166136261)
	for _, x := range b {
		h = (h ^ uint32(x)) * 16777619
	}
	return h
}
