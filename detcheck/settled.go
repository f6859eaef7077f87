package detcheck

import (
	"slices"

	"lockstep/api"
	"lockstep/expr"
)

// isSettled tells whether nothing is left open of the order in which rows are answered.
func (s *scene) isSettled() bool {
	x := s.stmt
	if x.Kind != api.Select || x.Distinct && !slices.ContainsFunc(x.Items, s.isLoose) {
		return true
	}
	if isGrouped(x) {
		return s.tellsGroups()
	}
	return s.tellsRows()
}

func isGrouped(x *api.Stmt) bool {
	isAgg := func(m api.Item) bool { return m.Agg != "" }
	return len(x.Group) > 0 || slices.ContainsFunc(x.Items, isAgg)
}

// isLoose tells whether an item has no name by which rows are ordered.
func (s *scene) isLoose(m api.Item) bool {
	return !slices.ContainsFunc(s.stmt.Order, func(o api.Order) bool { return o.Name == m.Name })
}

// ordered is the expressions that rows are ordered by. (What an aggregate comes to is not what it is of.)
func (s *scene) ordered() []api.Expr {
	var l []api.Expr
	for _, m := range s.stmt.Items {
		if m.Agg == "" && !s.isLoose(m) {
			l = append(l, m.Expr)
		}
	}
	return l
}

// tellsGroups tells whether no two groups are ordered alike. (Without Group there are no two.)
func (s *scene) tellsGroups() bool {
	fixed, ordered := s.fixed(), s.ordered()
	isOpen := func(g api.Expr) bool {
		if col := columnOf(&g, s.cols); col >= 0 && fixed[col] {
			return false
		}
		isSame := func(e api.Expr) bool { return expr.Same(e, g) }
		return !expr.Fixed(g) && !slices.ContainsFunc(ordered, isSame)
	}
	return !slices.ContainsFunc(s.stmt.Group, isOpen)
}

// tellsRows tells whether no two ways of rows side by side are ordered alike: of each From, what is fixed or ordered tells one row.
func (s *scene) tellsRows() bool {
	told := s.fixed()
	for _, e := range s.ordered() {
		if col := columnOf(&e, s.cols); col >= 0 {
			told[col] = true
		}
	}
	for i, f := range s.froms {
		tells := func(k api.Key) bool {
			isOpen := func(col int) bool { return !f.Form.Cols[col].NotNull || !told[s.first[i]+col] }
			return k.Unique && !slices.ContainsFunc(k.Cols, isOpen)
		}
		if !slices.ContainsFunc(f.Form.Keys, tells) {
			return false
		}
	}
	return true
}
