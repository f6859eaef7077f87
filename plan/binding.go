package plan

import (
	"slices"

	"lockstep/api"
	"lockstep/expr"
)

// binding is what a condition says of a column: by which sign that stands to the other side, and which Froms this names.
type binding struct {
	of    spot
	sign  string
	other api.Expr
	names []int
}

// isAfter tells whether all that the other side names was gone through.
func (b *binding) isAfter(gone ahead) bool {
	return !slices.ContainsFunc(b.names, func(from int) bool { return !gone[from] })
}

// bind notes what a condition says of its sides, each of which may be a column. A name that means nothing beside all Froms, as it does only beside the first of them, says nothing.
func (s *scene) bind(e *api.Expr) {
	back := turned(e.Op)
	if back == "" {
		return
	}
	signs := [2]string{e.Op, back}
	for i := range 2 {
		side, other := e.Parts[i], e.Parts[1-i]
		column, why := expr.Names(side, s.scope)
		if side.Op != "column" || why != api.OK {
			continue
		}
		typ, _, why := expr.Type(other, s.scope)
		if why != api.OK || !isLike(typ, s.scope.Cols[column[0]].Type) {
			continue
		}
		b := binding{of: s.spots[column[0]], sign: signs[i], other: other}
		places, _ := expr.Names(other, s.scope)
		for _, p := range places {
			b.names = append(b.names, s.spots[p].from)
		}
		s.bindings = append(s.bindings, b)
	}
}

// turned is a sign seen from its other side; none, if it binds nothing.
func turned(sign string) string {
	switch sign {
	case "=":
		return "="
	case "<":
		return ">"
	case "<=":
		return ">="
	case ">":
		return "<"
	case ">=":
		return "<="
	}
	return ""
}

// isLike tells whether all values of a type stand somewhere among a column's.
func isLike(typ, column int) bool {
	return typ == column || typ == api.BigInt && column == api.Dec
}

// bound is the first binding of a column by one of some signs, or none.
func (s *scene) bound(of spot, gone ahead, signs ...string) *binding {
	isMeant := func(b binding) bool {
		return b.of == of && slices.Contains(signs, b.sign) && b.isAfter(gone)
	}
	i := slices.IndexFunc(s.bindings, isMeant)
	if i < 0 {
		return nil
	}
	return &s.bindings[i]
}

// says tells whether a column is bound by a sign to just that other side.
func (s *scene) says(of spot, gone ahead, sign string, other *api.Expr) bool {
	isThat := func(b binding) bool {
		return b.of == of && b.sign == sign && b.isAfter(gone) && expr.Same(b.other, *other)
	}
	return slices.ContainsFunc(s.bindings, isThat)
}
