package catalog

import (
	"slices"

	"lockstep/api"
	"lockstep/expr"
)

// selection looks at a SELECT, and is the columns that it answers.
func (s *sight) selection(x *api.Stmt) []api.Col {
	s.froms(x.From)
	cols := s.joined(x.From)
	s.condition(&x.Where, cols)
	for i := range x.Group {
		s.typeOf(&x.Group[i], cols)
	}
	answered := make([]api.Col, 0, len(x.Items))
	for i := range x.Items {
		answered = append(answered, s.item(&x.Items[i], cols))
	}
	checkGroups(x)
	checkItemNames(x.Items)
	s.condition(&x.Having, answered)
	checkOrder(x.Order, answered)
	s.limit(&x.Limit)
	return answered
}

// froms looks at all tables ahead of the first condition. (That of the first From plays no part.)
func (s *sight) froms(l []api.From) {
	for i := range l {
		s.table(l[i].Table, l[i].At)
		isSame := func(ahead api.From) bool { return ahead.As == l[i].As }
		refuse(slices.ContainsFunc(l[:i], isSame), l[i].At, api.ErrTable)
	}
	for i := 1; i < len(l); i++ {
		s.condition(&l[i].On, s.joined(l[:i+1]))
	}
}

// item is the column that an item answers.
func (s *sight) item(m *api.Item, cols []api.Col) api.Col {
	if m.Agg != "" && m.Star {
		return api.Col{Name: m.Name, Type: api.BigInt}
	}
	typ := s.typeOf(&m.Expr, cols)
	refuse((m.Agg == "sum" || m.Agg == "avg") && !isNumber(typ), m.At, api.ErrType)
	switch m.Agg {
	case "count":
		typ = api.BigInt
	case "avg":
		typ = api.Dec
	}
	return api.Col{Name: m.Name, Type: typ}
}

// isNumber tells whether a type is that of numbers, or of NULL alone.
func isNumber(typ int) bool {
	return typ == api.BigInt || typ == api.Dec || typ == api.Null
}

func isGrouped(x *api.Stmt) bool {
	isAgg := func(m api.Item) bool { return m.Agg != "" }
	return len(x.Group) > 0 || slices.ContainsFunc(x.Items, isAgg)
}

// checkGroups gives up, if an item is not one for a whole group, or if there are conditions of groups, but no groups.
func checkGroups(x *api.Stmt) {
	if !isGrouped(x) {
		refuse(x.Having.Op != "", x.Having.At, api.ErrGroup)
		return
	}
	for i := range x.Items {
		m := &x.Items[i]
		isSame := func(g api.Expr) bool { return expr.Same(g, m.Expr) }
		isOne := m.Agg != "" || slices.ContainsFunc(x.Group, isSame) || expr.Fixed(m.Expr)
		refuse(!isOne, m.At, api.ErrGroup)
	}
}

func checkItemNames(l []api.Item) {
	for i := range l {
		isSame := func(ahead api.Item) bool { return ahead.Name == l[i].Name }
		refuse(l[i].Name != "" && slices.ContainsFunc(l[:i], isSame), l[i].At, api.ErrTable)
	}
}

func checkOrder(l []api.Order, answered []api.Col) {
	for _, o := range l {
		isMeant := func(c api.Col) bool { return c.Name == o.Name }
		refuse(!slices.ContainsFunc(answered, isMeant), o.At, api.ErrName)
	}
}

func (s *sight) limit(e *api.Expr) {
	if e.Op != "" {
		refuse(s.typeOf(e, nil) != api.BigInt, e.At, api.ErrType)
	}
}
