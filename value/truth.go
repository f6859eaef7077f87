package value

import "lockstep/api"

// Test holds two values against each other: TRUE, FALSE, or NULL.
func Test(op string, a, b api.Value) (api.Value, api.Errno) {
	if !isTest(op) {
		return api.Value{}, api.ErrArg
	}
	if why := checkEach(a, b); why != api.OK {
		return api.Value{}, why
	}
	if oneNull(a, b) {
		return api.Value{}, api.OK
	}
	if groupOf(a.Type) != groupOf(b.Type) {
		return api.Value{}, api.ErrType
	}
	if groupOf(a.Type) == numbers {
		return truth(holds(op, orderSizes(a, b))), api.OK
	}
	return truth(holds(op, Order(a, b))), api.OK
}

// And is SQL's and: of three truths.
func And(a, b api.Value) (api.Value, api.Errno) {
	if why := checkTruths(a, b); why != api.OK {
		return api.Value{}, why
	}
	if isTruth(a, 0) || isTruth(b, 0) {
		return truth(false), api.OK
	}
	if oneNull(a, b) {
		return api.Value{}, api.OK
	}
	return truth(true), api.OK
}

// Or is SQL's or: of three truths.
func Or(a, b api.Value) (api.Value, api.Errno) {
	if why := checkTruths(a, b); why != api.OK {
		return api.Value{}, why
	}
	if isTruth(a, 1) || isTruth(b, 1) {
		return truth(true), api.OK
	}
	if oneNull(a, b) {
		return api.Value{}, api.OK
	}
	return truth(false), api.OK
}

// Not is SQL's not: of three truths.
func Not(a api.Value) (api.Value, api.Errno) {
	if why := checkTruths(a); why != api.OK {
		return api.Value{}, why
	}
	if a.Type == api.Null {
		return api.Value{}, api.OK
	}
	return truth(a.Int == 0), api.OK
}

// checkTruths is the first error of values that ought to be NULL, TRUE or FALSE. All are looked at for whether they can be, ahead of what type one has.
func checkTruths(values ...api.Value) api.Errno {
	if why := checkEach(values...); why != api.OK {
		return why
	}
	for _, v := range values {
		if v.Type != api.Null && v.Type != api.Bool {
			return api.ErrType
		}
	}
	return api.OK
}

func oneNull(a, b api.Value) bool {
	return a.Type == api.Null || b.Type == api.Null
}

// isTruth asks for the Type too, since a NULL's Int may be anything.
func isTruth(v api.Value, n int64) bool {
	return v.Type == api.Bool && v.Int == n
}

func truth(is bool) api.Value {
	if is {
		return api.Value{Type: api.Bool, Int: 1}
	}
	return api.Value{Type: api.Bool}
}

func isTest(op string) bool {
	switch op {
	case "=", "<>", "<", "<=", ">", ">=":
		return true
	}
	return false
}

// holds tells whether two values whose order is c are as op says.
func holds(op string, c int) bool {
	switch op {
	case "=":
		return c == 0
	case "<>":
		return c != 0
	case "<":
		return c < 0
	case "<=":
		return c <= 0
	case ">":
		return c > 0
	}
	return c >= 0
}
