package expr

import (
	"slices"

	"lockstep/api"
)

// typeOf is the type of an expression that can be. All its Parts are looked at ahead of itself, so what is wrong in them is told first.
func typeOf(e *api.Expr, s *api.Scope) int {
	parts := make([]int, 0, 4) // of a size that is known, it needs no memory of its own
	for i := range e.Parts {
		parts = append(parts, typeOf(&e.Parts[i], s))
	}
	switch e.Op {
	case "value":
		return e.Value.Type
	case "column":
		return declared(e, s.Cols[column(e, s)])
	case "param":
		return declared(e, s.Params[param(e, s)])
	case "cast":
		return e.Type
	}
	return typeBy(e, parts)
}

// typeBy is the type of an expression that has one by its Parts' types.
func typeBy(e *api.Expr, parts []int) int {
	switch e.Op {
	case "and", "or":
		need(e, parts, api.Bool, api.Bool)
	case "not":
		need(e, parts, api.Bool)
	case "like":
		need(e, parts, api.Text, api.Text)
	case "=", "<>", "<", "<=", ">", ">=", "in":
		for _, typ := range parts[1:] {
			meet(e, parts[0], typ)
		}
	case "+", "-", "*", "/":
		// Even if both are NULL alone, what comes of them is a number.
		return max(number(e, meet(e, parts[0], parts[1])), api.BigInt)
	case "neg":
		return number(e, parts[0])
	case "||":
		need(e, parts, api.Text, api.Text)
		return api.Text
	case "length":
		need(e, parts, api.Text)
		return api.BigInt
	case "substr":
		need(e, parts, api.Text, api.BigInt, api.BigInt)
		return api.Text
	case "coalesce":
		return meet(e, parts[0], parts[1])
	case "case":
		need(e, parts, api.Bool)
		return meet(e, parts[1], parts[2])
	}
	return api.Bool
}

// need gives up, unless the first Parts have these types, each its own.
func need(e *api.Expr, parts []int, types ...int) {
	for i, typ := range types {
		if parts[i] != typ && parts[i] != api.Null {
			panic(fault{e.At, api.ErrType})
		}
	}
}

// meet is the type of what is one or the other of two; it gives up, if these can't be held against each other.
func meet(e *api.Expr, a, b int) int {
	if a == b || b == api.Null {
		return a
	}
	if a == api.Null {
		return b
	}
	// Two types that differ meet only if they are both numbers.
	return max(number(e, a), number(e, b))
}

// number is the type of a number, or of NULL alone; it gives up, if it is of something else.
func number(e *api.Expr, typ int) int {
	if typ != api.Null && typ != api.BigInt && typ != api.Dec {
		panic(fault{e.At, api.ErrType})
	}
	return typ
}

// declared is the type of a column or parameter of the scope.
func declared(e *api.Expr, c api.Col) int {
	if !isType(c.Type) {
		panic(fault{e.At, api.ErrType})
	}
	return c.Type
}

// column is the place of the column that an expression names. A name alone must leave no choice.
func column(e *api.Expr, s *api.Scope) int {
	named := func(c api.Col) bool {
		return c.Name == e.Name && (e.Of == "" || c.Of == e.Of)
	}
	i := slices.IndexFunc(s.Cols, named)
	if i < 0 || e.Of == "" && slices.ContainsFunc(s.Cols[i+1:], named) {
		panic(fault{e.At, api.ErrName})
	}
	return i
}

// param is the place of the parameter that an expression names.
func param(e *api.Expr, s *api.Scope) int {
	i := slices.IndexFunc(s.Params, func(c api.Col) bool { return c.Name == e.Name })
	if i < 0 {
		panic(fault{e.At, api.ErrParam})
	}
	return i
}
