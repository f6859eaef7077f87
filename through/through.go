// Package through is what a statement goes through: tables, under names, and the conditions that their rows must meet.
package through

import (
	"lockstep/api"
	"lockstep/catalog"
	"lockstep/expr"
)

// From is a table that is gone through, and under which name.
type From struct {
	As   string
	Form api.Table
}

// Froms is what a statement goes through: of a SELECT its Froms, of an UPDATE, a DELETE its table. (All of them are there.)
func Froms(c *catalog.Catalog, x *api.Stmt) []From {
	var l []From
	add := func(as, table string) {
		form, _ := c.Table(table)
		l = append(l, From{as, form})
	}
	switch x.Kind {
	case api.Select:
		for _, f := range x.From {
			add(f.As, f.Table)
		}
	case api.Update, api.Delete:
		add(x.Table, x.Table)
	}
	return l
}

// Condition is one that rows must meet, and beside how many of the Froms its names stand: in an On one may be one alone, and not any more beside the Froms behind.
type Condition struct {
	Expr  api.Expr
	Froms int
}

// Conditions is those of a statement, in their order. (That of the first From plays no part, an INSERT has none.)
func Conditions(x *api.Stmt) []Condition {
	var l []Condition
	add := func(e *api.Expr, froms int) {
		if e.Op == "" { // there is none, whatever its Parts are
			return
		}
		for _, part := range expr.Parts(*e) {
			l = append(l, Condition{part, froms})
		}
	}
	switch x.Kind {
	case api.Select:
		for i := 1; i < len(x.From); i++ {
			add(&x.From[i].On, i+1)
		}
		add(&x.Where, len(x.From))
	case api.Update, api.Delete:
		add(&x.Where, 1)
	}
	return l
}
