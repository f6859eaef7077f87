package value

import (
	"math"
	"math/bits"

	"lockstep/api"
)

// Reckon is a sum, a difference, a product, a quotient.
func Reckon(op string, a, b api.Value) (api.Value, api.Errno) {
	if op != "+" && op != "-" && op != "*" && op != "/" {
		return api.Value{}, api.ErrArg
	}
	if why := checkNumbers(a, b); why != api.OK {
		return api.Value{}, why
	}
	if oneNull(a, b) {
		return api.Value{}, api.OK
	}
	if a.Type == api.BigInt && b.Type == api.BigInt {
		n, why := reckonWhole(op, a.Int, b.Int)
		return number(api.BigInt, n, why)
	}
	x, why := partsOf(a)
	if why != api.OK {
		return api.Value{}, why
	}
	y, why := partsOf(b)
	if why != api.OK {
		return api.Value{}, why
	}
	n, why := reckonParts(op, x, y)
	return number(api.Dec, n, why)
}

// Neg is the opposite of a number.
func Neg(a api.Value) (api.Value, api.Errno) {
	if why := checkNumbers(a); why != api.OK {
		return api.Value{}, why
	}
	if a.Type == api.Null {
		return api.Value{}, api.OK
	}
	n, why := difference(0, a.Int)
	return number(a.Type, n, why)
}

// checkNumbers is the first error of values that ought to be NULL or numbers.
func checkNumbers(values ...api.Value) api.Errno {
	if why := checkEach(values...); why != api.OK {
		return why
	}
	for _, v := range values {
		if v.Type != api.Null && groupOf(v.Type) != numbers {
			return api.ErrType
		}
	}
	return api.OK
}

func number(typ int, n int64, why api.Errno) (api.Value, api.Errno) {
	if why != api.OK {
		return api.Value{}, why
	}
	return api.Value{Type: typ, Int: n}, api.OK
}

// partsOf is how many ten-thousandths a number is.
func partsOf(v api.Value) (int64, api.Errno) {
	if v.Type == api.Dec {
		return v.Int, api.OK
	}
	return wholeProduct(v.Int, api.Scale)
}

func reckonWhole(op string, a, b int64) (int64, api.Errno) {
	switch op {
	case "+":
		return sum(a, b)
	case "-":
		return difference(a, b)
	case "*":
		return wholeProduct(a, b)
	}
	return wholeQuotient(a, b)
}

func reckonParts(op string, a, b int64) (int64, api.Errno) {
	switch op {
	case "+":
		return sum(a, b)
	case "-":
		return difference(a, b)
	case "*":
		return partsProduct(a, b)
	}
	return partsQuotient(a, b)
}

func sum(a, b int64) (int64, api.Errno) {
	n := a + b
	if (a < 0) == (b < 0) && (n < 0) != (a < 0) {
		return 0, api.ErrOver
	}
	return n, api.OK
}

func difference(a, b int64) (int64, api.Errno) {
	n := a - b
	if (a < 0) != (b < 0) && (n < 0) != (a < 0) {
		return 0, api.ErrOver
	}
	return n, api.OK
}

func wholeProduct(a, b int64) (int64, api.Errno) {
	high, low := bits.Mul64(size(a), size(b))
	if high != 0 {
		return 0, api.ErrOver
	}
	return signed(low, (a < 0) != (b < 0))
}

func wholeQuotient(a, b int64) (int64, api.Errno) {
	if b == 0 {
		return 0, api.ErrZero
	}
	return signed(size(a)/size(b), (a < 0) != (b < 0))
}

// partsProduct adds half a unit ahead of cutting off: sizes have no sign, so a half goes away from nought on both sides of it.
func partsProduct(a, b int64) (int64, api.Errno) {
	high, low := bits.Mul64(size(a), size(b))
	low, carry := bits.Add64(low, api.Scale/2, 0)
	high += carry
	if high >= api.Scale {
		return 0, api.ErrOver
	}
	n, _ := bits.Div64(high, low, api.Scale)
	return signed(n, (a < 0) != (b < 0))
}

// partsQuotient rounds by the remainder, as half of an odd divisor is no whole number.
func partsQuotient(a, b int64) (int64, api.Errno) {
	if b == 0 {
		return 0, api.ErrZero
	}
	divisor := size(b)
	high, low := bits.Mul64(size(a), api.Scale)
	if high >= divisor {
		return 0, api.ErrOver
	}
	n, rest := bits.Div64(high, low, divisor)
	if n > 1<<63 {
		return 0, api.ErrOver
	}
	if rest >= divisor-rest {
		n++
	}
	return signed(n, (a < 0) != (b < 0))
}

// size is a number without its sign, also of -2^63.
func size(n int64) uint64 {
	if n < 0 {
		return -uint64(n)
	}
	return uint64(n)
}

// signed is a number of that size, on that side of nought.
func signed(size uint64, negative bool) (int64, api.Errno) {
	if negative {
		if size > 1<<63 {
			return 0, api.ErrOver
		}
		return int64(-size), api.OK
	}
	if size > math.MaxInt64 {
		return 0, api.ErrOver
	}
	return int64(size), api.OK
}
