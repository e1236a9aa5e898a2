package eval

import (
	"math"
	"math/bits"

	"counterfoil/api"
)

// wide is a number of 128 bits, in two words: what it is below 0 stands as in one word.
type wide struct{ high, low uint64 }

// widened: n of 128 bits.
func widened(n int64) wide { return wide{uint64(n >> 63), uint64(n)} }

func (w wide) plus(v wide) wide {
	low, carry := bits.Add64(w.low, v.low, 0)
	high, _ := bits.Add64(w.high, v.high, carry)
	return wide{high, low}
}

func (w wide) minus(v wide) wide {
	low, borrow := bits.Sub64(w.low, v.low, 0)
	high, _ := bits.Sub64(w.high, v.high, borrow)
	return wide{high, low}
}

// product: a times b.
func product(a, b int64) wide {
	high, low := bits.Mul64(uint64(a), uint64(b))
	// A word of a number below 0 tells 2^64 more than the number.
	high -= uint64(a>>63)&uint64(b) + uint64(b>>63)&uint64(a)
	return wide{high, low}
}

// value: the integer that it is, if it is one.
func (w wide) value() (api.Value, api.Errno) {
	if n := int64(w.low); w == widened(n) {
		return integer(n), api.OK
	}
	return api.Value{}, api.ErrOver
}

// reckon: what a number, or two, come to.
func reckon(op uint8, a, b int64) (api.Value, api.Errno) {
	switch op {
	case api.ExNeg:
		return widened(0).minus(widened(a)).value()
	case api.ExAdd:
		return widened(a).plus(widened(b)).value()
	case api.ExSub:
		return widened(a).minus(widened(b)).value()
	case api.ExMul:
		return product(a, b).value()
	}
	switch {
	case b == 0:
		return api.Value{}, api.OK
	case op == api.ExMod:
		return integer(a % b), api.OK
	case a == math.MinInt64 && b == -1:
		return api.Value{}, api.ErrOver
	}
	return integer(a / b), api.OK
}
