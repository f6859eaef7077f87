package beside

import (
	"slices"

	"lockstep/api"
	"lockstep/value"
)

// Set is a column, and what it becomes.
type Set struct {
	col, typ int
	term     Term
}

func setOf(form *api.Table, name string, t Term) Set {
	isMeant := func(c api.Column) bool { return c.Name == name }
	col := slices.IndexFunc(form.Cols, isMeant)
	return Set{col: col, typ: form.Cols[col].Type, term: t}
}

// Sets is what an UPDATE of a table sets.
func (s *Scene) Sets(x *api.Stmt, form *api.Table, v Sight) []Set {
	sets := make([]Set, 0, len(x.Sets))
	for _, t := range x.Sets {
		sets = append(sets, setOf(form, t.Name, s.Term(t.Expr, v)))
	}
	return sets
}

// Become is a row like another one, but for what is set, of rows side by side; or the least error.
func Become(r api.Row, sets []Set, of Rows) (api.Row, api.Errno) {
	n := slices.Clone(r)
	least := api.OK
	for i := range sets {
		v, why := sets[i].term.Of(of)
		if why == api.OK {
			v, why = value.Cast(v, sets[i].typ)
		}
		n[sets[i].col] = v
		least = Lesser(least, why)
	}
	return n, least
}

// Inserted is the row that an INSERT brings into a table.
func (s *Scene) Inserted(x *api.Stmt, form *api.Table) (api.Row, api.Errno) {
	sets := make([]Set, 0, len(x.Cols))
	for i, name := range x.Cols {
		sets = append(sets, setOf(form, name, s.Term(x.Values[i], Sight{})))
	}
	return Become(make(api.Row, len(form.Cols)), sets, nil)
}
