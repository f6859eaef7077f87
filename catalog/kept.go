package catalog

import (
	"lockstep/api"
	"lockstep/value"
)

// What is kept, and what is told, is in memory of its own, without what plays no part: as it would be read again of what is printed of it, but for places.

// keptList is a list of what is kept of each.
func keptList[T any](l []T, kept func(x *T) T) []T {
	if len(l) == 0 {
		return nil
	}
	out := make([]T, 0, len(l))
	for i := range l {
		out = append(out, kept(&l[i]))
	}
	return out
}

func keptTable(t *api.Table) api.Table {
	k := *t
	k.Cols = keptList(t.Cols, keptColumn)
	k.Keys = keptList(t.Keys, keptKey)
	return k
}

func keptColumn(c *api.Column) api.Column {
	k := *c
	if c.Type != api.Text {
		k.Most = 0
	}
	return k
}

func keptKey(k *api.Key) api.Key {
	return api.Key{Name: k.Name, Cols: keptList(k.Cols, same), Unique: k.Unique}
}

func same[T any](x *T) T { return *x }

func keptProc(p *api.Proc) api.Proc {
	k := *p
	k.Params = keptList(p.Params, keptColumn)
	k.Steps = keptList(p.Steps, keptStep)
	return k
}

func keptStep(s *api.Step) api.Step {
	k := api.Step{Kind: s.Kind, At: s.At}
	switch s.Kind {
	case api.Let:
		k.Name = s.Name
		k.Stmt = keptStmt(&s.Stmt)
	case api.Abort:
		k.Text = s.Text
		k.Cond = keptExpr(&s.Cond)
	default:
		k.Stmt = keptStmt(&s.Stmt)
	}
	return k
}

func keptStmt(x *api.Stmt) api.Stmt {
	if x.Kind == api.Select {
		return keptSelect(x)
	}
	k := api.Stmt{Kind: x.Kind, Table: x.Table, At: x.At}
	switch x.Kind {
	case api.Insert:
		k.Cols = keptList(x.Cols, same)
		k.Values = keptList(x.Values, keptExpr)
	case api.Update:
		k.Sets = keptList(x.Sets, keptSet)
		k.Where = keptExpr(&x.Where)
	case api.Delete:
		k.Where = keptExpr(&x.Where)
	}
	return k
}

func keptSelect(x *api.Stmt) api.Stmt {
	k := api.Stmt{Kind: api.Select, Distinct: x.Distinct, At: x.At}
	k.Items = keptList(x.Items, keptItem)
	k.From = keptFroms(x.From)
	k.Where = keptExpr(&x.Where)
	k.Group = keptList(x.Group, keptExpr)
	k.Having = keptExpr(&x.Having)
	k.Order = keptList(x.Order, same)
	k.Limit = keptExpr(&x.Limit)
	return k
}

func keptItem(m *api.Item) api.Item {
	k := api.Item{Agg: m.Agg, Name: m.Name, At: m.At}
	if m.Agg != "" && m.Star {
		k.Star = true
		return k
	}
	k.Distinct = m.Agg != "" && m.Distinct
	k.Expr = keptExpr(&m.Expr)
	return k
}

// keptFroms has no condition of the first one, which stands beside nothing.
func keptFroms(l []api.From) []api.From {
	kept := keptList(l, same)
	for i := range kept {
		kept[i].On = api.Expr{}
		if i > 0 {
			kept[i].On = keptExpr(&l[i].On)
		}
	}
	return kept
}

func keptSet(s *api.Set) api.Set {
	return api.Set{Name: s.Name, Expr: keptExpr(&s.Expr), At: s.At}
}

func keptExpr(e *api.Expr) api.Expr {
	if e.Op == "" {
		return api.Expr{}
	}
	k := api.Expr{Op: e.Op, Parts: keptList(e.Parts, keptExpr), At: e.At}
	switch e.Op {
	case "value":
		// Cast to the type that it has already, a value loses what that does not name; NULL has none, but is NULL as any.
		k.Value, _ = value.Cast(e.Value, max(e.Value.Type, api.BigInt))
	case "column":
		k.Name, k.Of = e.Name, e.Of
	case "param":
		k.Name = e.Name
	case "cast":
		k.Type = e.Type
	}
	return k
}
