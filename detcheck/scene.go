package detcheck

import (
	"lockstep/api"
	"lockstep/catalog"
	"lockstep/expr"
	"lockstep/through"
)

// side is one of the two of a condition =: an expression, and the place of the column that it just is (below 0: it is none).
type side struct {
	expr api.Expr
	col  int
}

// scene is a statement, what it goes through, which columns it may name, and what its conditions hold to be the same.
type scene struct {
	stmt   *api.Stmt
	froms  []through.From
	first  []int // the place of each From's first column, and behind them how many columns there are
	cols   []api.Col
	equals [][2]side
}

// sceneOf is that of a statement in which nothing is wrong.
func sceneOf(c *catalog.Catalog, x *api.Stmt) scene {
	s := scene{stmt: x, froms: through.Froms(c, x), first: []int{0}}
	s.cols, _ = c.Scope(*x)
	for i, f := range s.froms {
		s.first = append(s.first, s.first[i]+len(f.Form.Cols))
	}
	for _, cond := range through.Conditions(x) {
		if cond.Expr.Op == "=" {
			named := s.cols[:s.first[cond.Froms]]
			l, r := cond.Expr.Parts[0], cond.Expr.Parts[1]
			s.equals = append(s.equals, [2]side{{l, columnOf(&l, named)}, {r, columnOf(&r, named)}})
		}
	}
	return s
}

// columnOf is the place of the column that an expression just is, below 0 if it is more, or none.
func columnOf(e *api.Expr, cols []api.Col) int {
	if e.Op != "column" {
		return -1
	}
	places, _ := expr.Names(*e, api.Scope{Cols: cols})
	return places[0]
}

// spread tells of each column whether a condition holds it to be the same as what it spreads from, or as a column of which that is so: again and again, until nothing changes. It comes to no column that may not be so.
func (s *scene) spread(isFrom func(e *api.Expr) bool, may func(col int) bool) []bool {
	is := make([]bool, len(s.cols))
	reaches := func(other *side) bool {
		return isFrom(&other.expr) || other.col >= 0 && is[other.col]
	}
	for changed := true; changed; {
		changed = false
		for _, sides := range s.equals {
			for i := range 2 {
				col := sides[i].col
				if col >= 0 && !is[col] && may(col) && reaches(&sides[1-i]) {
					is[col], changed = true, true
				}
			}
		}
	}
	return is
}

// fixed tells of each column whether it is the same in all rows that are answered.
func (s *scene) fixed() []bool {
	isFixed := func(e *api.Expr) bool { return expr.Fixed(*e) }
	return s.spread(isFixed, func(int) bool { return true })
}

// sameAs tells of each column whether it is the same as a parameter. (Values of two types belong to two partitions, so they are never the same here.)
func (s *scene) sameAs(by api.Col) []bool {
	isBy := func(e *api.Expr) bool { return isParam(e, by.Name) }
	return s.spread(isBy, func(col int) bool { return s.cols[col].Type == by.Type })
}

func isParam(e *api.Expr, name string) bool {
	return e.Op == "param" && e.Name == name
}
