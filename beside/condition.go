package beside

import (
	"lockstep/api"
	"lockstep/expr"
)

// Condition is what must all be TRUE.
type Condition []Term

// Condition is of an expression, or, if there is none, one that always holds.
func (s *Scene) Condition(e api.Expr, v Sight) Condition {
	if e.Op == "" {
		return nil
	}
	return s.Terms(expr.Parts(e), v)
}

// Holds tells whether it does, or that it errs: one Part that is not TRUE is enough for that it does not, whatever the others err.
func (c Condition) Holds(rows Rows) (bool, api.Errno) {
	least := api.OK
	for i := range c {
		v, why := c[i].Of(rows)
		if why == api.OK && v != (api.Value{Type: api.Bool, Int: 1}) {
			return false, api.OK
		}
		least = Lesser(least, why)
	}
	return least == api.OK, least
}

// Join is what a SELECT may name beside its tables' rows, and the conditions that these must meet, by how many of the rows they need.
type Join struct {
	Sees  Sight
	Conds []Condition
}

// Join is a SELECT's, if the rows of its Froms stand at these places side by side.
func (s *Scene) Join(x *api.Stmt, places []int) Join {
	j := Join{Conds: make([]Condition, len(x.From)+1)}
	for i, f := range x.From {
		j.Sees.Widen(f.As, &s.Forms[s.Place(f.Table)], places[i])
		if i > 0 { // that of the first one plays no part
			// A name may be one alone here, and not any more beside the tables behind.
			j.need(s.Condition(f.On, j.Sees))
		}
	}
	j.need(s.Condition(x.Where, j.Sees))
	return j
}

// need takes a condition in, each of its Parts where it can first be asked.
func (j *Join) need(c Condition) {
	for _, t := range c {
		n := t.Needs()
		j.Conds[n] = append(j.Conds[n], t)
	}
}

// AreMany tells whether there are more ways than may be tried to put rows side by side, of tables of so many. (A product of so few does not wrap round.)
func AreMany(rows []int) bool {
	ways := int64(1)
	for _, n := range rows {
		ways *= int64(n)
	}
	return ways > api.MaxTried
}
