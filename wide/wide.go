// Package wide is whole numbers of 128 bits, for sums of values, which may leave the values' type and come back to it.
package wide

import (
	"cmp"
	"math/bits"

	"lockstep/api"
)

// Number is a whole number of 128 bits, of which the highest one counts below nought. Beyond that it wraps round; no sum of 2^40 values comes there, nor do its ten-thousandths.
type Number struct {
	high int64
	low  uint64
}

// Of is a number of 64 bits.
func Of(n int64) Number {
	return Number{n >> 63, uint64(n)}
}

// Plus is a sum.
func (n Number) Plus(m Number) Number {
	low, carry := bits.Add64(n.low, m.low, 0)
	return Number{n.high + m.high + int64(carry), low}
}

// Times is a product.
func (n Number) Times(m uint64) Number {
	over, low := bits.Mul64(n.low, m)
	return Number{n.high*int64(m) + int64(over), low}
}

// By is a quotient, by a number that is not nought: the nearest number; of two that are as near the one farther from nought. It is reckoned without a sign, so that a half goes away from nought on both sides of it.
func (n Number) By(m uint64) Number {
	isBelow := n.high < 0
	if isBelow {
		n = n.opposite()
	}
	high, rest := bits.Div64(0, uint64(n.high), m)
	low, rest := bits.Div64(rest, n.low, m)
	quotient := Number{int64(high), low}
	if rest >= m-rest {
		quotient = quotient.Plus(Of(1))
	}
	if isBelow {
		return quotient.opposite()
	}
	return quotient
}

func (n Number) opposite() Number {
	low, borrow := bits.Sub64(0, n.low, 0)
	return Number{-n.high - int64(borrow), low}
}

// Order is -1, 0, 1: whether a number is less than another one, the same, or greater.
func (n Number) Order(m Number) int {
	return cmp.Or(cmp.Compare(n.high, m.high), cmp.Compare(n.low, m.low))
}

// Cut is two numbers: the first one times 2^48, and the second one, which is from 0 to 2^48 - 1, are the number, if that is one of 112 bits.
func (n Number) Cut() (int64, int64) {
	return n.high<<16 | int64(n.low>>48), int64(n.low & (1<<48 - 1))
}

// As is the number as a value of a type that holds its Int: of a DECIMAL so many ten-thousandths.
func (n Number) As(typ int) (api.Value, api.Errno) {
	v := api.Value{Type: typ, Int: int64(n.low)}
	if n != Of(v.Int) {
		return api.Value{}, api.ErrOver
	}
	return v, api.OK
}

// Mean is the sum of so many values (at least one), which are BIGINTs or DECIMALs, by how many they are, as a DECIMAL.
func (n Number) Mean(typ int, many int) (api.Value, api.Errno) {
	if typ == api.BigInt {
		n = n.Times(api.Scale)
	}
	return n.By(uint64(many)).As(api.Dec)
}
