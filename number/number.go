// Package number tells numbers as bytes: small ones in few bytes (the short form), or all in as many.
package number

import "counterfoil/api"

// most is how many bytes a short form has at most; one of so many bytes keeps eight bits in its last one.
const most = 9

// long is the least number whose short form has most bytes.
const long = 1 << 56

// Put: the short form of n.
func Put(n uint64) string {
	size := Size(n)
	var digits [most]byte
	last := most - 1
	if size == most {
		digits[last] = byte(n)
		n >>= 8
	} else {
		digits[last] = byte(n & 127)
		n >>= 7
	}
	// A long form has noughts ahead, too: so all digits are laid, and those that are wanted cut off.
	for at := last - 1; at >= 0; at-- {
		digits[at] = byte(n&127) | 128
		n >>= 7
	}
	return string(digits[most-size:])
}

// Size: how many bytes the short form of n has.
func Size(n uint64) int {
	if n >= long {
		return most
	}
	size := 1
	for n >>= 7; n > 0; n >>= 7 {
		size++
	}
	return size
}

// Take: the number whose short form s begins with, and how many bytes that has.
func Take(s string) (n uint64, size int, e api.Errno) {
	e = api.ErrShort
form:
	for i, c := range []byte(s) {
		switch {
		case i == most-1:
			n, size, e = n<<8|uint64(c), most, api.OK
			break form
		case c < 128:
			n, size, e = n<<7|uint64(c), i+1, api.OK
			break form
		}
		n = n<<7 | uint64(c&127)
	}
	if e != api.OK {
		return 0, 0, e
	}
	// A number has one form alone: what could be told in fewer bytes is none.
	if Size(n) != size {
		return 0, 0, api.ErrForm
	}
	return n, size, api.OK
}

// Fold: 2 i of a number i from 0 on, -2 i - 1 of one below 0.
func Fold(i int64) uint64 { return uint64(i)<<1 ^ uint64(i>>63) }

// Unfold: the number that is n when it is folded.
func Unfold(n uint64) int64 { return int64(n>>1) ^ -int64(n&1) }

// Four: n as four bytes, the highest first.
func Four(n uint32) string {
	return string([]byte{byte(n >> 24), byte(n >> 16), byte(n >> 8), byte(n)})
}

// TakeFour: the number whose four bytes s begins with.
func TakeFour(s string) (uint32, api.Errno) {
	n, e := fixed(s, 4)
	return uint32(n), e
}

// Eight: n as eight bytes, the highest first.
func Eight(n uint64) string { return Four(uint32(n>>32)) + Four(uint32(n)) }

// TakeEight: the number whose eight bytes s begins with.
func TakeEight(s string) (uint64, api.Errno) { return fixed(s, 8) }

// fixed: the number whose so many bytes s begins with.
func fixed(s string, size int) (n uint64, e api.Errno) {
	if len(s) < size {
		return 0, api.ErrShort
	}
	for i := range size {
		n = n<<8 | uint64(s[i])
	}
	return n, api.OK
}
