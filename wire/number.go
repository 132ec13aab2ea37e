package wire

import (
	"recycling/api"
)

const (
	groupBits = 7
	// more is the bit that is added to every byte of a varint but the last one.
	more          = 1 << groupBits
	longestVarint = 10
	// lastByteMost is the greatest last byte of a longest varint, for nine groups leave one bit of the 64.
	lastByteMost = 1
)

// PutUint returns b with the varint of u appended, in new memory (as all Put functions).
func PutUint(b []byte, u uint64) []byte {
	return appendUint(copied(b, longestVarint), u)
}

// TakeUint reads a varint at the beginning of b and returns it and its length: ErrOverflow, ErrTruncated, ErrForm for a longer encoding than necessary.
func TakeUint(b []byte) (uint64, int, api.Errno) {
	var u uint64
	k := 0
next:
	if k == longestVarint {
		return 0, 0, api.ErrOverflow
	}
	if k == len(b) {
		return 0, 0, api.ErrTruncated
	}
	last := b[k]
	u |= uint64(last&^more) << (groupBits * k)
	k++
	if last >= more {
		goto next
	}
	if k == longestVarint && last > lastByteMost {
		return 0, 0, api.ErrOverflow
	}
	if k > 1 && last == 0 {
		return 0, 0, api.ErrForm
	}
	return u, k, api.OK
}

// PutInt appends n in zigzag encoding.
func PutInt(b []byte, n int) []byte {
	return PutUint(b, zigzag(n))
}

// TakeInt reads what PutInt writes.
func TakeInt(b []byte) (int, int, api.Errno) {
	u, k, e := TakeUint(b)
	if e != api.OK {
		return 0, 0, e
	}
	return unzigzag(u), k, api.OK
}

// appendUint appends the varint of u to b in place.
func appendUint(b []byte, u uint64) []byte {
	for u >= more {
		b = append(b, byte(u)|more)
		u >>= groupBits
	}
	return append(b, byte(u))
}

// zigzag returns the zigzag code of n. The complement of 2 n is -2 n - 1, and no bit of it is lost for the least integer either.
func zigzag(n int) uint64 {
	twice := uint64(n) << 1
	if n < 0 {
		return ^twice
	}
	return twice
}

// unzigzag returns the integer whose zigzag code is u.
func unzigzag(u uint64) int {
	half := int(u >> 1)
	if u&1 == 1 {
		return ^half
	}
	return half
}
