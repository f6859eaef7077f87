// Package kept is declarations, statements and rows as they are kept and told: in memory of their own, without what plays no part; the former two as they would be read again of what is printed of them, but for places.
package kept

import "lockstep/api"

// list is a list of what is kept of each.
func list[T any](l []T, kept func(x *T) T) []T {
	if len(l) == 0 {
		return nil
	}
	out := make([]T, 0, len(l))
	for i := range l {
		out = append(out, kept(&l[i]))
	}
	return out
}

func same[T any](x *T) T { return *x }

// Table is a table. (How its keys' columns are numbered plays a part here.)
func Table(t *api.Table) api.Table {
	k := *t
	k.Cols = list(t.Cols, column)
	k.Keys = list(t.Keys, key)
	return k
}

func column(c *api.Column) api.Column {
	k := *c
	if c.Type != api.Text {
		k.Most = 0
	}
	return k
}

func key(k *api.Key) api.Key {
	return api.Key{Name: k.Name, Cols: list(k.Cols, same), Unique: k.Unique}
}

// Proc is a procedure.
func Proc(p *api.Proc) api.Proc {
	k := *p
	k.Params = list(p.Params, column)
	k.Steps = list(p.Steps, step)
	return k
}

func step(s *api.Step) api.Step {
	k := api.Step{Kind: s.Kind, At: s.At}
	switch s.Kind {
	case api.Let:
		k.Name = s.Name
		k.Stmt = Stmt(&s.Stmt)
	case api.Abort:
		k.Text = s.Text
		k.Cond = Expr(&s.Cond)
	default:
		k.Stmt = Stmt(&s.Stmt)
	}
	return k
}

// Stmt is a statement that can be written.
func Stmt(x *api.Stmt) api.Stmt {
	if x.Kind == api.Select {
		return selection(x)
	}
	k := api.Stmt{Kind: x.Kind, Table: x.Table, At: x.At}
	switch x.Kind {
	case api.Insert:
		k.Cols = list(x.Cols, same)
		k.Values = list(x.Values, Expr)
	case api.Update:
		k.Sets = list(x.Sets, set)
		k.Where = Expr(&x.Where)
	case api.Delete:
		k.Where = Expr(&x.Where)
	}
	return k
}

func selection(x *api.Stmt) api.Stmt {
	k := api.Stmt{Kind: api.Select, Distinct: x.Distinct, At: x.At}
	k.Items = list(x.Items, item)
	k.From = froms(x.From)
	k.Where = Expr(&x.Where)
	k.Group = list(x.Group, Expr)
	k.Having = Expr(&x.Having)
	k.Order = list(x.Order, same)
	k.Limit = Expr(&x.Limit)
	return k
}

func item(m *api.Item) api.Item {
	k := api.Item{Agg: m.Agg, Name: m.Name, At: m.At}
	if m.Agg != "" && m.Star {
		k.Star = true
		return k
	}
	k.Distinct = m.Agg != "" && m.Distinct
	k.Expr = Expr(&m.Expr)
	return k
}

// froms has no condition of the first one, which stands beside nothing.
func froms(l []api.From) []api.From {
	k := list(l, same)
	for i := range k {
		k[i].On = api.Expr{}
		if i > 0 {
			k[i].On = Expr(&l[i].On)
		}
	}
	return k
}

func set(s *api.Set) api.Set {
	return api.Set{Name: s.Name, Expr: Expr(&s.Expr), At: s.At}
}

// Expr is an expression that can be written, or, of an empty one, none.
func Expr(e *api.Expr) api.Expr {
	if e.Op == "" {
		return api.Expr{}
	}
	k := api.Expr{Op: e.Op, Parts: list(e.Parts, Expr), At: e.At}
	switch e.Op {
	case "value":
		k.Value = Value(e.Value)
	case "column":
		k.Name, k.Of = e.Name, e.Of
	case "param":
		k.Name = e.Name
	case "cast":
		k.Type = e.Type
	}
	return k
}
