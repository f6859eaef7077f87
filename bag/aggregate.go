package bag

import (
	"math/bits"
	"slices"

	"lockstep/api"
	"lockstep/value"
)

// aggregate is that of values, which are all of one type, none of them NULL.
func aggregate(agg string, values []api.Value) (api.Value, api.Errno) {
	switch {
	case agg == "count":
		return bigint(len(values)), api.OK
	case len(values) == 0:
		return api.Value{}, api.OK
	case agg == "min":
		return slices.MinFunc(values, value.Order), api.OK
	case agg == "max":
		return slices.MaxFunc(values, value.Order), api.OK
	case agg == "sum":
		return total(values).as(values[0].Type)
	}
	return average(values)
}

func bigint(n int) api.Value { return api.Value{Type: api.BigInt, Int: int64(n)} }

// wide is a number of 128 bits, of which the highest one counts below nought: no sum of as many values as there may be leaves it.
type wide struct {
	high int64
	low  uint64
}

func total(values []api.Value) wide {
	var sum wide
	for _, v := range values {
		low, carry := bits.Add64(sum.low, uint64(v.Int), 0)
		sum = wide{sum.high + v.Int>>63 + int64(carry), low}
	}
	return sum
}

func (w wide) opposite() wide {
	low, borrow := bits.Sub64(0, w.low, 0)
	return wide{-w.high - int64(borrow), low}
}

// as is the number as a value of a type.
func (w wide) as(typ int) (api.Value, api.Errno) {
	n := int64(w.low)
	if w.high != n>>63 {
		return api.Value{}, api.ErrOver
	}
	return api.Value{Type: typ, Int: n}, api.OK
}

// average is the nearest DECIMAL. It is reckoned without a sign, so that a half goes away from nought on both sides of it.
func average(values []api.Value) (api.Value, api.Errno) {
	sum := total(values)
	isBelow := sum.high < 0
	if isBelow {
		sum = sum.opposite()
	}
	mean, why := sum.parts(values[0].Type).by(uint64(len(values)))
	if why != api.OK {
		return api.Value{}, why
	}
	if isBelow {
		mean = mean.opposite()
	}
	return mean.as(api.Dec)
}

// parts is how many ten-thousandths a number of a type, not below nought, is.
func (w wide) parts(typ int) wide {
	if typ == api.Dec {
		return w
	}
	over, low := bits.Mul64(w.low, api.Scale)
	return wide{w.high*api.Scale + int64(over), low}
}

// by is a quotient of numbers that are not below nought: the nearest number, of two the greater one. ErrOver is told of those alone that no value can be.
func (w wide) by(n uint64) (wide, api.Errno) {
	if uint64(w.high) >= n {
		return wide{}, api.ErrOver
	}
	quotient, rest := bits.Div64(uint64(w.high), w.low, n)
	up := uint64(0)
	if rest >= n-rest {
		up = 1
	}
	low, carry := bits.Add64(quotient, up, 0)
	return wide{int64(carry), low}, api.OK
}
