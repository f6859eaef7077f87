package expr

import (
	"slices"

	"lockstep/api"
	"lockstep/value"
)

// each tells an expression, and all in it, each ahead of its Parts, from the left, and how deep it is; until tell is false. It is whether it came to the end.
func each(e *api.Expr, deep int, tell func(x *api.Expr, deep int) bool) bool {
	if !tell(e, deep) {
		return false
	}
	for i := range e.Parts {
		if !each(&e.Parts[i], deep+1, tell) {
			return false
		}
	}
	return true
}

// Same tells whether two expressions are one, wherever they stand.
func Same(a, b api.Expr) bool {
	return same(&a, &b)
}

func same(a, b *api.Expr) bool {
	if a.Op != b.Op || len(a.Parts) != len(b.Parts) {
		return false
	}
	switch a.Op {
	case "value":
		return value.Same(a.Value, b.Value)
	case "column":
		return a.Name == b.Name && a.Of == b.Of
	case "param":
		return a.Name == b.Name
	case "cast":
		if a.Type != b.Type {
			return false
		}
	}
	for i := range a.Parts {
		if !same(&a.Parts[i], &b.Parts[i]) {
			return false
		}
	}
	return true
}

// Fixed tells whether an expression names no column, also if it can't be.
func Fixed(e api.Expr) bool {
	return each(&e, 1, func(x *api.Expr, _ int) bool { return x.Op != "column" })
}

// Parts is the conditions that are all to hold.
func Parts(e api.Expr) []api.Expr {
	var parts []api.Expr
	var split func(x *api.Expr)
	split = func(x *api.Expr) {
		// One with other than two Parts can't be, and has no sides.
		if x.Op == "and" && len(x.Parts) == 2 {
			split(&x.Parts[0])
			split(&x.Parts[1])
			return
		}
		parts = append(parts, copied(x))
	}
	split(&e)
	return parts
}

// All is one condition that says all of them.
func All(l []api.Expr) api.Expr {
	if len(l) == 0 {
		return api.Expr{Op: "value", Value: truth(true)}
	}
	all := copied(&l[0])
	for i := 1; i < len(l); i++ {
		all = api.Expr{Op: "and", Parts: []api.Expr{all, copied(&l[i])}}
	}
	return all
}

// copied is the same expression in memory of its own, down to its last Part.
func copied(e *api.Expr) api.Expr {
	c := *e
	c.Parts = slices.Clone(e.Parts)
	for i := range c.Parts {
		c.Parts[i] = copied(&c.Parts[i])
	}
	return c
}
