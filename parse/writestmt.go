package parse

import (
	"strings"

	"lockstep/api"
)

// stmt writes a statement, whose expressions count by themselves.
func (w *writer) stmt(x *api.Stmt) {
	w.begun = 0
	switch x.Kind {
	case api.Select:
		w.selection(x)
	case api.Insert:
		w.say("INSERT", "INTO")
		w.name(x.Table)
		w.names(x.Cols, maxNames)
		w.say("VALUES")
		w.brackets(func() { writeList(w, x.Values, maxNames, w.expr) })
	case api.Update:
		w.say("UPDATE")
		w.name(x.Table)
		w.say("SET")
		writeList(w, x.Sets, maxSet, w.set)
		w.condition("WHERE", &x.Where)
	case api.Delete:
		w.say("DELETE", "FROM")
		w.name(x.Table)
		w.condition("WHERE", &x.Where)
	default:
		w.refuse()
	}
}

func (w *writer) selection(x *api.Stmt) {
	w.say("SELECT")
	if x.Distinct {
		w.say("DISTINCT")
	}
	writeList(w, x.Items, api.MaxItems, w.item)
	w.say("FROM")
	w.tables(x.From)
	w.condition("WHERE", &x.Where)
	if len(x.Group) > 0 {
		w.say("GROUP", "BY")
		writeList(w, x.Group, maxGroup, w.expr)
	}
	w.condition("HAVING", &x.Having)
	if len(x.Order) > 0 {
		w.say("ORDER", "BY")
		writeList(w, x.Order, maxOrder, w.order)
	}
	if x.Limit.Op != "" {
		w.say("LIMIT")
		w.bound(&x.Limit)
	}
}

func (w *writer) item(m *api.Item) {
	switch {
	case m.Agg == "":
		w.expr(&m.Expr)
	case isAgg(m.Agg):
		w.call(strings.ToUpper(m.Agg))
		w.brackets(func() { w.aggregated(m) })
	default:
		w.refuse()
	}
	w.as(m.Name, usualName(m))
}

// aggregated writes what an aggregate is of: rows are only counted.
func (w *writer) aggregated(m *api.Item) {
	if m.Star {
		w.need(m.Agg == "count")
		w.say("*")
		return
	}
	if m.Distinct {
		w.say("DISTINCT")
	}
	w.expr(&m.Expr)
}

// as writes a name, if it is not the usual one.
func (w *writer) as(name, usual string) {
	if name != usual {
		w.say("AS")
		w.name(name)
	}
}

// tables writes the condition of each but the first one, of which it plays no part.
func (w *writer) tables(l []api.From) {
	w.need(len(l) >= 1 && len(l) <= api.MaxFrom)
	for i := range l {
		if i > 0 {
			w.say("JOIN")
		}
		w.name(l[i].Table)
		w.as(l[i].As, l[i].Table)
		if i > 0 {
			w.say("ON")
			w.expr(&l[i].On)
		}
	}
}

// condition writes the one behind a word; nothing, if there is none.
func (w *writer) condition(word string, e *api.Expr) {
	if e.Op != "" {
		w.say(word)
		w.expr(e)
	}
}

func (w *writer) order(o *api.Order) {
	w.name(o.Name)
	if o.Desc {
		w.say("DESC")
	}
}

func (w *writer) bound(e *api.Expr) {
	w.need(e.Op == "param" || e.Op == "value" && e.Value.Type == api.BigInt)
	w.expr(e)
}

func (w *writer) set(s *api.Set) {
	w.name(s.Name)
	w.say("=")
	w.expr(&s.Expr)
}
