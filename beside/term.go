package beside

import (
	"slices"

	"lockstep/api"
	"lockstep/expr"
)

// Sight is the columns that an expression may name, and where each one's values stand in rows side by side.
type Sight struct {
	cols  []api.Col
	spots []spot
}

// spot is a column of one of the rows that stand side by side.
type spot struct{ row, col int }

// Widen puts a table beside those that are seen, as the row of that number.
func (v *Sight) Widen(of string, form *api.Table, row int) {
	for i, c := range form.Cols {
		v.cols = append(v.cols, api.Col{Of: of, Name: c.Name, Type: c.Type})
		v.spots = append(v.spots, spot{row, i})
	}
}

// sightOf is the columns of what is answered.
func sightOf(answered []api.Col) Sight {
	v := Sight{cols: answered}
	for i := range answered {
		v.spots = append(v.spots, spot{0, i})
	}
	return v
}

// Term is an expression beside just those columns and parameters that it names: rows may be long, and all that it is handed is looked at each time.
type Term struct {
	e     api.Expr
	scope api.Scope
	spots []spot
	args  api.Row
	row   api.Row // for the columns' values
}

// Term is of an expression that was checked, as all are here.
func (s *Scene) Term(e api.Expr, v Sight) Term {
	t := Term{e: e}
	places, _ := expr.Names(e, api.Scope{Cols: v.cols, Params: s.Params})
	for _, p := range places {
		t.scope.Cols = append(t.scope.Cols, v.cols[p])
		t.spots = append(t.spots, v.spots[p])
	}
	for i, p := range s.Params {
		if asksFor(&e, p.Name) {
			t.scope.Params = append(t.scope.Params, p)
			t.args = append(t.args, s.Args[i])
		}
	}
	t.row = make(api.Row, len(t.spots))
	return t
}

// Terms is of several expressions.
func (s *Scene) Terms(l []api.Expr, v Sight) []Term {
	terms := make([]Term, 0, len(l))
	for _, e := range l {
		terms = append(terms, s.Term(e, v))
	}
	return terms
}

// asksFor tells whether an expression names a parameter.
func asksFor(e *api.Expr, name string) bool {
	if e.Op == "param" {
		return e.Name == name
	}
	return slices.ContainsFunc(e.Parts, func(p api.Expr) bool { return asksFor(&p, name) })
}

// Of is what an expression comes to. (One that names no column needs no rows.)
func (t *Term) Of(rows Rows) (api.Value, api.Errno) {
	for i, p := range t.spots {
		t.row[i] = rows[p.row][p.col]
	}
	return expr.Eval(t.e, t.scope, t.row, t.args)
}

// Type is that of all values that an expression comes to, but for NULL.
func (t *Term) Type() int {
	typ, _, _ := expr.Type(t.e, t.scope)
	return typ
}

// Needs is how many of the rows that stand side by side, from the first one on, an expression hangs on.
func (t *Term) Needs() int {
	n := 0
	for _, p := range t.spots {
		n = max(n, p.row+1)
	}
	return n
}
