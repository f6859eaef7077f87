package expr

import (
	"slices"

	"lockstep/api"
	"lockstep/value"
)

// given is what an expression is reckoned from.
type given struct {
	scope       *api.Scope
	row, params api.Row
}

// fit tells whether values are those of columns (or parameters), each at its place.
func fit(values api.Row, cols []api.Col) bool {
	if len(values) != len(cols) {
		return false
	}
	for i, v := range values {
		if value.Check(v) != api.OK || v.Type != api.Null && v.Type != cols[i].Type {
			return false
		}
	}
	return true
}

// value is what an expression comes to in which nothing is wrong. It has nothing of what its Type does not name, so that two are the same just if they are as structs. What needs not all its Parts stops here; all else is done of all of them.
func (g *given) value(e *api.Expr) api.Value {
	switch e.Op {
	case "value":
		return onlyNamed(e.Value)
	case "column":
		return onlyNamed(g.row[column(e, g.scope)])
	case "param":
		return onlyNamed(g.params[param(e, g.scope)])
	case "and":
		return g.unless(e, truth(false), value.And)
	case "or":
		return g.unless(e, truth(true), value.Or)
	case "in":
		return g.isOneOf(e)
	case "coalesce":
		if v := g.value(&e.Parts[0]); v != (api.Value{}) {
			return g.beside(v, &e.Parts[1])
		}
		return g.beside(g.value(&e.Parts[1]), &e.Parts[0])
	case "case":
		if g.value(&e.Parts[0]) == truth(true) {
			return g.beside(g.value(&e.Parts[1]), &e.Parts[2])
		}
		return g.beside(g.value(&e.Parts[2]), &e.Parts[1])
	}
	return g.done(e)
}

// unless is the first of two Parts, if that settles it, else what both come to.
func (g *given) unless(e *api.Expr, settled api.Value, both func(a, b api.Value) (api.Value, api.Errno)) api.Value {
	a := g.value(&e.Parts[0])
	if a == settled {
		return a
	}
	return sure(both(a, g.value(&e.Parts[1])))
}

// isOneOf looks at no more Parts than it needs.
func (g *given) isOneOf(e *api.Expr) api.Value {
	first := g.value(&e.Parts[0])
	if first == (api.Value{}) {
		return first
	}
	is := truth(false)
	for i := 1; i < len(e.Parts) && is != truth(true); i++ {
		is = sure(value.Or(is, sure(value.Test("=", first, g.value(&e.Parts[i])))))
	}
	return is
}

// beside is a value that stands for two Parts, of which other is the one that it is not: a number becomes a DECIMAL, if other is one, whatever it comes to.
func (g *given) beside(v api.Value, other *api.Expr) api.Value {
	if v.Type == api.BigInt && typeOf(other, g.scope) == api.Dec {
		return sure(value.Cast(v, api.Dec))
	}
	return v
}

// done is what an expression comes to that needs all its Parts: of these there are three at most.
func (g *given) done(e *api.Expr) api.Value {
	var parts [3]api.Value
	for i := range e.Parts {
		parts[i] = g.value(&e.Parts[i])
	}
	a, b := parts[0], parts[1]
	switch e.Op {
	case "not":
		return sure(value.Not(a))
	case "is null":
		return truth(a == api.Value{})
	case "cast":
		return sure(value.Cast(a, e.Type))
	case "neg":
		return sure(value.Neg(a))
	case "+", "-", "*", "/":
		return sure(value.Reckon(e.Op, a, b))
	case "||", "like", "length", "substr":
		return ofTexts(e.Op, parts[:len(e.Parts)])
	}
	return sure(value.Test(e.Op, a, b))
}

// ofTexts is what is done with texts: NULL, if one of the Parts is.
func ofTexts(op string, parts []api.Value) api.Value {
	if slices.Contains(parts, api.Value{}) {
		return api.Value{}
	}
	s := parts[0].Text
	switch op {
	case "length":
		return api.Value{Type: api.BigInt, Int: length(s)}
	case "like":
		is, why := value.Like(s, parts[1].Text)
		return sure(truth(is), why)
	case "substr":
		return api.Value{Type: api.Text, Text: piece(s, parts[1].Int, parts[2].Int)}
	}
	if len(s)+len(parts[1].Text) > api.MaxText {
		panic(fault{why: api.ErrLong})
	}
	return api.Value{Type: api.Text, Text: s + parts[1].Text}
}

// length is how many characters a text has.
func length(s string) int64 {
	n := int64(0)
	for range s {
		n++
	}
	return n
}

// piece is as many characters of a text, from the one with a number (from 1) on. (The two numbers may be too great to be added.)
func piece(s string, from, many int64) string {
	from, many = max(from, 1), max(many, 0)
	begin, end := len(s), len(s)
	no := int64(0)
	for at := range s {
		no++
		if no == from {
			begin = at
		}
		if no-from == many {
			end = at
		}
	}
	return s[begin:end]
}

// sure gives up with value's error.
func sure(v api.Value, why api.Errno) api.Value {
	if why != api.OK {
		panic(fault{why: why})
	}
	return v
}

// onlyNamed is a value that can be, without what its type does not name.
func onlyNamed(v api.Value) api.Value {
	switch v.Type {
	case api.Null:
		return api.Value{}
	case api.Text:
		return api.Value{Type: v.Type, Text: v.Text}
	}
	return api.Value{Type: v.Type, Int: v.Int}
}

func truth(is bool) api.Value {
	if is {
		return api.Value{Type: api.Bool, Int: 1}
	}
	return api.Value{Type: api.Bool}
}
