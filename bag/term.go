package bag

import (
	"slices"

	"lockstep/api"
	"lockstep/expr"
)

// scene is what a statement is run beside: tables, and values of parameters.
type scene struct {
	forms  []api.Table
	data   api.Data
	params []api.Col
	args   api.Row
}

// place is that of a table that is there.
func (s *scene) place(name string) int {
	return slices.IndexFunc(s.forms, func(form api.Table) bool { return form.Name == name })
}

// side is rows side by side, one of each table.
type side []api.Row

// sight is the columns that an expression may name, and where each one's values stand in rows side by side.
type sight struct {
	cols  []api.Col
	spots []spot
}

// spot is a column of one of the rows that stand side by side.
type spot struct{ row, col int }

// widen puts a table beside those that are seen, as the row of that number.
func (v *sight) widen(of string, form *api.Table, row int) {
	for i, c := range form.Cols {
		v.cols = append(v.cols, api.Col{Of: of, Name: c.Name, Type: c.Type})
		v.spots = append(v.spots, spot{row, i})
	}
}

// sightOf is the columns of what is answered.
func sightOf(answered []api.Col) sight {
	v := sight{cols: answered}
	for i := range answered {
		v.spots = append(v.spots, spot{0, i})
	}
	return v
}

// term is an expression beside just those columns and parameters that it names: rows may be long, and all that it is handed is looked at each time.
type term struct {
	e     api.Expr
	scope api.Scope
	spots []spot
	args  api.Row
	row   api.Row // for the columns' values
}

// term is of an expression that was checked, as all are here.
func (s *scene) term(e api.Expr, v sight) term {
	t := term{e: e}
	places, _ := expr.Names(e, api.Scope{Cols: v.cols, Params: s.params})
	for _, p := range places {
		t.scope.Cols = append(t.scope.Cols, v.cols[p])
		t.spots = append(t.spots, v.spots[p])
	}
	for i, p := range s.params {
		if asksFor(&e, p.Name) {
			t.scope.Params = append(t.scope.Params, p)
			t.args = append(t.args, s.args[i])
		}
	}
	t.row = make(api.Row, len(t.spots))
	return t
}

// asksFor tells whether an expression names a parameter.
func asksFor(e *api.Expr, name string) bool {
	if e.Op == "param" {
		return e.Name == name
	}
	return slices.ContainsFunc(e.Parts, func(p api.Expr) bool { return asksFor(&p, name) })
}

// of is what an expression comes to. (One that names no column needs no rows.)
func (t *term) of(rows side) (api.Value, api.Errno) {
	for i, p := range t.spots {
		t.row[i] = rows[p.row][p.col]
	}
	return expr.Eval(t.e, t.scope, t.row, t.args)
}

// needs is how many of the rows that stand side by side, from the first one on, an expression hangs on.
func (t *term) needs() int {
	n := 0
	for _, p := range t.spots {
		n = max(n, p.row+1)
	}
	return n
}

// condition is what must all be TRUE.
type condition []term

// condition is of an expression, or, if there is none, one that always holds.
func (s *scene) condition(e api.Expr, v sight) condition {
	if e.Op == "" {
		return nil
	}
	var c condition
	for _, p := range expr.Parts(e) {
		c = append(c, s.term(p, v))
	}
	return c
}

// holds tells whether it does, or that it errs: one Part that is not TRUE is enough for that it does not, whatever the others err.
func (c condition) holds(rows side) (bool, api.Errno) {
	least := api.OK
	for i := range c {
		v, why := c[i].of(rows)
		if why == api.OK && v != (api.Value{Type: api.Bool, Int: 1}) {
			return false, api.OK
		}
		least = lesser(least, why)
	}
	return least == api.OK, least
}

// lesser is the error with the lesser number, OK being none.
func lesser(a, b api.Errno) api.Errno {
	if a == api.OK || b != api.OK && b < a {
		return b
	}
	return a
}
