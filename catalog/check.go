package catalog

import (
	"slices"

	"lockstep/api"
	"lockstep/expr"
	"lockstep/parse"
)

// sight is what a statement may name: tables, and parameters.
type sight struct {
	tables named[api.Table]
	params []api.Col
}

// needWritten gives up, unless a statement can be written: all others may be too great to be gone through.
func needWritten(x *api.Stmt) {
	_, why := parse.PrintStmt(*x)
	refuse(why != api.OK, 0, api.ErrArg)
}

func needParams(params []api.Col) {
	isNone := func(c api.Col) bool { return c.Type < api.BigInt || c.Type > api.Bool }
	refuse(slices.ContainsFunc(params, isNone) || hasTwice(params, colName), 0, api.ErrArg)
}

// columns is those of a table as expressions name them.
func columns(of string, l []api.Column) []api.Col {
	cols := make([]api.Col, 0, len(l))
	for _, c := range l {
		cols = append(cols, api.Col{Of: of, Name: c.Name, Type: c.Type})
	}
	return cols
}

func (s *sight) table(name string, at int) api.Table {
	t, is := s.tables[name]
	refuse(!is, at, api.ErrName)
	return t
}

// scope is the columns that the conditions of a statement may name.
func (s *sight) scope(x *api.Stmt) []api.Col {
	if x.Kind == api.Select {
		return s.joined(x.From)
	}
	t := s.table(x.Table, x.At)
	if x.Kind == api.Insert {
		return nil
	}
	return columns(t.Name, t.Cols)
}

// joined is the columns of tables, one behind the other.
func (s *sight) joined(l []api.From) []api.Col {
	var cols []api.Col
	for i := range l {
		t := s.table(l[i].Table, l[i].At)
		cols = append(cols, columns(l[i].As, t.Cols)...)
	}
	return cols
}

// answer is the columns that a statement answers.
func (s *sight) answer(x *api.Stmt) []api.Col {
	switch x.Kind {
	case api.Select:
		return s.selection(x)
	case api.Insert:
		s.insertion(x)
	case api.Update:
		s.update(x)
	case api.Delete:
		s.condition(&x.Where, s.scope(x))
	}
	return []api.Col{{Name: "count", Type: api.BigInt}}
}

// typeOf is the type of an expression beside columns and the parameters.
func (s *sight) typeOf(e *api.Expr, cols []api.Col) int {
	typ, at, why := expr.Type(*e, api.Scope{Cols: cols, Params: s.params})
	refuse(why != api.OK, at, why)
	return typ
}

// condition looks at one, if there is one.
func (s *sight) condition(e *api.Expr, cols []api.Col) {
	if e.Op == "" {
		return
	}
	typ := s.typeOf(e, cols)
	refuse(typ != api.Bool && typ != api.Null, e.At, api.ErrType)
}

func (s *sight) insertion(x *api.Stmt) {
	t := s.table(x.Table, x.At)
	refuse(len(x.Values) != len(x.Cols), x.At, api.ErrArg)
	for _, name := range x.Cols {
		refuse(columnOf(&t, name) < 0, x.At, api.ErrName)
	}
	refuse(hasTwice(x.Cols, func(name *string) string { return *name }), x.At, api.ErrTable)
	for i := range x.Values {
		s.fitting(&x.Values[i], nil, t.Cols[columnOf(&t, x.Cols[i])])
	}
}

func (s *sight) update(x *api.Stmt) {
	t := s.table(x.Table, x.At)
	cols := columns(t.Name, t.Cols)
	for i := range x.Sets {
		set := &x.Sets[i]
		col := columnOf(&t, set.Name)
		refuse(col < 0, set.At, api.ErrName)
		isSame := func(ahead api.Set) bool { return ahead.Name == set.Name }
		refuse(slices.ContainsFunc(x.Sets[:i], isSame), set.At, api.ErrTable)
		refuse(col == t.Part, set.At, api.ErrPart)
		s.fitting(&set.Expr, cols, t.Cols[col])
	}
	s.condition(&x.Where, cols)
}

// fitting looks at what a column becomes.
func (s *sight) fitting(e *api.Expr, cols []api.Col, to api.Column) {
	refuse(!fits(s.typeOf(e, cols), to.Type), e.At, api.ErrType)
}

// fits tells whether what has a type may become a column of another one.
func fits(typ, to int) bool {
	return typ == api.Null || typ == to || typ == api.BigInt && to == api.Dec
}
