// Package value is layer 1: SQL's values: see DOC.md and doc/01-value.md.
package value

import (
	"cmp"
	"strings"
	"unicode/utf8"

	"lockstep/api"
)

// The groups of types, in the order in which their values stand.
const (
	nulls = iota
	numbers
	texts
	truths
	others
)

// Check tells whether a value can be.
func Check(v api.Value) api.Errno {
	switch v.Type {
	case api.Null, api.BigInt, api.Dec:
		return api.OK
	case api.Text:
		return checkText(v.Text)
	case api.Bool:
		if v.Int == 0 || v.Int == 1 {
			return api.OK
		}
	}
	return api.ErrArg
}

func checkText(s string) api.Errno {
	if len(s) > api.MaxText {
		return api.ErrLong
	}
	if !utf8.ValidString(s) {
		return api.ErrForm
	}
	return api.OK
}

// checkEach is the error of the first value that can't be.
func checkEach(values ...api.Value) api.Errno {
	for _, v := range values {
		if why := Check(v); why != api.OK {
			return why
		}
	}
	return api.OK
}

// Order is the one order of all values, also of those that can't be.
func Order(a, b api.Value) int {
	group := groupOf(a.Type)
	if c := cmp.Compare(group, groupOf(b.Type)); c != 0 {
		return c
	}
	switch group {
	case nulls:
		return 0
	case numbers:
		// Of the same size the BIGINT stands ahead.
		return cmp.Or(orderSizes(a, b), cmp.Compare(a.Type, b.Type))
	case texts:
		return strings.Compare(a.Text, b.Text)
	case truths:
		return cmp.Compare(a.Int, b.Int)
	}
	return cmp.Or(cmp.Compare(a.Type, b.Type), cmp.Compare(a.Int, b.Int), strings.Compare(a.Text, b.Text))
}

// Same tells whether two values are one.
func Same(a, b api.Value) bool {
	return Order(a, b) == 0
}

// Rows orders two rows, value by value.
func Rows(a, b api.Row) int {
	for i := range min(len(a), len(b)) {
		if c := Order(a[i], b[i]); c != 0 {
			return c
		}
	}
	return cmp.Compare(len(a), len(b))
}

func groupOf(typ int) int {
	switch typ {
	case api.Null:
		return nulls
	case api.BigInt, api.Dec:
		return numbers
	case api.Text:
		return texts
	case api.Bool:
		return truths
	}
	return others
}

// orderSizes orders two numbers by their size alone, whatever their types.
func orderSizes(a, b api.Value) int {
	switch {
	case a.Type == b.Type:
		return cmp.Compare(a.Int, b.Int)
	case a.Type == api.BigInt:
		return orderMixed(a.Int, b.Int)
	}
	return -orderMixed(b.Int, a.Int)
}

// orderMixed orders a whole number and one in ten-thousandths. It divides the latter, as the former may be too great to be multiplied.
func orderMixed(whole, parts int64) int {
	return cmp.Or(cmp.Compare(whole, parts/api.Scale), cmp.Compare(0, parts%api.Scale))
}
