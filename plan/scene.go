package plan

import (
	"lockstep/api"
	"lockstep/catalog"
	"lockstep/through"
)

// spot is a column of a From, both by their numbers.
type spot struct{ from, col int }

// ahead is which Froms were gone through.
type ahead [api.MaxFrom]bool

// scene is what a statement goes through, what it may name, where that stands, and what its conditions say of it, in their order.
type scene struct {
	froms    []through.From
	scope    api.Scope
	spots    []spot
	bindings []binding
}

// sceneOf is that of a statement in which nothing is wrong.
func sceneOf(c *catalog.Catalog, x *api.Stmt, params []api.Col) (scene, api.Errno) {
	if c == nil {
		return scene{}, api.ErrArg
	}
	if _, why := c.Check(*x, params); why != api.OK {
		return scene{}, why
	}
	s := scene{froms: through.Froms(c, x), scope: api.Scope{Params: params}}
	s.scope.Cols, _ = c.Scope(*x)
	for i, f := range s.froms {
		for col := range f.Form.Cols {
			s.spots = append(s.spots, spot{i, col})
		}
	}
	for _, cond := range through.Conditions(x) {
		s.bind(&cond.Expr)
	}
	return s, api.OK
}
