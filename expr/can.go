package expr

import (
	"lockstep/api"
	"lockstep/value"
)

// maxDeep is how many expressions may be in one another.
const maxDeep = 64

// checkForm gives up, unless an expression can be. What is too great comes first, wherever else something is wrong; and it is not gone through to its end, which may be far off.
func checkForm(e *api.Expr) {
	count, can := 0, true
	each(e, 1, func(x *api.Expr, deep int) bool {
		count++
		if count > api.MaxExprs || deep > maxDeep {
			panic(fault{why: api.ErrLong})
		}
		can = can && canBe(x)
		return true
	})
	if !can {
		panic(fault{why: api.ErrArg})
	}
}

// canBe tells whether an expression can be, whatever its Parts are.
func canBe(e *api.Expr) bool {
	least, most := partsOf(e.Op)
	if len(e.Parts) < least || len(e.Parts) > most {
		return false
	}
	switch e.Op {
	case "value":
		return value.Check(e.Value) == api.OK
	case "cast":
		return isType(e.Type)
	}
	return true
}

// partsOf is how many Parts an expression has, by its Op: at least and at most. (Of an Op that is none, no number will do.)
func partsOf(op string) (int, int) {
	switch op {
	case "value", "column", "param":
		return 0, 0
	case "not", "neg", "is null", "cast", "length":
		return 1, 1
	case "and", "or", "=", "<>", "<", "<=", ">", ">=", "+", "-", "*", "/", "||", "like", "coalesce":
		return 2, 2
	case "substr", "case":
		return 3, 3
	case "in":
		return 2, api.MaxExprs
	}
	return 1, 0
}

func isType(typ int) bool {
	return typ >= api.BigInt && typ <= api.Bool
}
