package bag

import (
	"slices"

	"lockstep/api"
	"lockstep/value"
	"lockstep/wide"
)

// aggregate is that of values, which are all of one type, none of them NULL.
func aggregate(agg string, values []api.Value) (api.Value, api.Errno) {
	switch {
	case agg == "count":
		return bigint(len(values)), api.OK
	case len(values) == 0:
		return api.Value{}, api.OK
	case agg == "min":
		return slices.MinFunc(values, value.Order), api.OK
	case agg == "max":
		return slices.MaxFunc(values, value.Order), api.OK
	case agg == "sum":
		return total(values).As(values[0].Type)
	}
	return total(values).Mean(values[0].Type, len(values))
}

func bigint(n int) api.Value { return api.Value{Type: api.BigInt, Int: int64(n)} }

// total is their sum, reckoned without an end: no sum of as many values as there may be leaves 128 bits.
func total(values []api.Value) wide.Number {
	var sum wide.Number
	for _, v := range values {
		sum = sum.Plus(wide.Of(v.Int))
	}
	return sum
}
