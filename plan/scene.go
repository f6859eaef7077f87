package plan

import (
	"lockstep/api"
	"lockstep/catalog"
	"lockstep/expr"
)

// from is a table that is gone through, and under which name.
type from struct {
	as   string
	form api.Table
}

// fromsOf is what a statement goes through: of a SELECT its Froms, of an UPDATE, a DELETE its table. (All of them are there.)
func fromsOf(c *catalog.Catalog, x *api.Stmt) []from {
	var l []from
	add := func(as, table string) {
		form, _ := c.Table(table)
		l = append(l, from{as, form})
	}
	switch x.Kind {
	case api.Select:
		for _, f := range x.From {
			add(f.As, f.Table)
		}
	case api.Update, api.Delete:
		add(x.Table, x.Table)
	}
	return l
}

// conditions is those that rows must meet, in their order. (That of the first From plays no part, an INSERT has none, and one that is not there says nothing of any column.)
func conditions(x *api.Stmt) []api.Expr {
	var l []api.Expr
	switch x.Kind {
	case api.Select:
		for i := 1; i < len(x.From); i++ {
			l = append(l, expr.Parts(x.From[i].On)...)
		}
		l = append(l, expr.Parts(x.Where)...)
	case api.Update, api.Delete:
		l = expr.Parts(x.Where)
	}
	return l
}

// spot is a column of a From, both by their numbers.
type spot struct{ from, col int }

// ahead is which Froms were gone through.
type ahead [api.MaxFrom]bool

// scene is what a statement goes through, what it may name, where that stands, and what its conditions say of it, in their order.
type scene struct {
	froms    []from
	scope    api.Scope
	spots    []spot
	bindings []binding
}

// sceneOf is that of a statement in which nothing is wrong.
func sceneOf(c *catalog.Catalog, x *api.Stmt, params []api.Col) (scene, api.Errno) {
	if c == nil {
		return scene{}, api.ErrArg
	}
	if _, why := c.Check(*x, params); why != api.OK {
		return scene{}, why
	}
	s := scene{froms: fromsOf(c, x), scope: api.Scope{Params: params}}
	s.scope.Cols, _ = c.Scope(*x)
	for i, f := range s.froms {
		for col := range f.form.Cols {
			s.spots = append(s.spots, spot{i, col})
		}
	}
	for _, e := range conditions(x) {
		s.bind(&e)
	}
	return s, api.OK
}
