package parse

import "lockstep/api"

// stmt reads a statement, whose expressions count by themselves.
func (r *reader) stmt() api.Stmt {
	r.begun = 0
	at := r.here().At
	var x api.Stmt
	switch {
	case r.take("select"):
		x = r.selection()
	case r.take("insert"):
		x = r.insertion()
	case r.take("update"):
		x = r.update()
	case r.take("delete"):
		x = r.deletion()
	default:
		r.wrong()
	}
	x.At = at
	return x
}

func (r *reader) selection() api.Stmt {
	x := api.Stmt{Kind: api.Select, Distinct: r.take("distinct")}
	x.Items = list(r, api.MaxItems, r.item)
	r.must("from")
	x.From = r.tables()
	x.Where = r.condition("where")
	if r.take("group") {
		r.must("by")
		x.Group = list(r, maxGroup, r.expr)
	}
	x.Having = r.condition("having")
	if r.take("order") {
		r.must("by")
		x.Order = list(r, maxOrder, r.order)
	}
	if r.take("limit") {
		x.Limit = r.bound()
	}
	return x
}

func (r *reader) item() api.Item {
	m := api.Item{At: r.here().At}
	if t := r.here(); t.Kind == api.Word && isAgg(t.Text) {
		r.ahead++
		m.Agg = t.Text
		r.brackets(func() { r.aggregated(&m) })
	} else {
		m.Expr = r.expr()
	}
	m.Name = usualName(&m)
	if r.take("as") {
		m.Name = r.name()
	}
	return m
}

// aggregated reads what an aggregate is of: rows are only counted.
func (r *reader) aggregated(m *api.Item) {
	if m.Agg == "count" && r.take("*") {
		m.Star = true
		return
	}
	m.Distinct = r.take("distinct")
	m.Expr = r.expr()
}

func (r *reader) tables() []api.From {
	l := []api.From{r.from()}
	for r.take("join") {
		r.room(len(l), api.MaxFrom)
		f := r.from()
		r.must("on")
		f.On = r.expr()
		l = append(l, f)
	}
	return l
}

func (r *reader) from() api.From {
	at, table := r.here().At, r.name()
	f := api.From{Table: table, As: table, At: at}
	if r.take("as") {
		f.As = r.name()
	}
	return f
}

// condition reads the one behind a word; none, if the word is left out.
func (r *reader) condition(word string) api.Expr {
	if r.take(word) {
		return r.expr()
	}
	return api.Expr{}
}

func (r *reader) order() api.Order {
	at, name := r.here().At, r.name()
	desc := r.take("desc")
	if !desc {
		r.take("asc")
	}
	return api.Order{Name: name, Desc: desc, At: at}
}

func (r *reader) bound() api.Expr {
	if t := r.here(); t.Kind != api.Param && !isNumber(t) {
		r.wrong()
	}
	return r.last()
}

func (r *reader) insertion() api.Stmt {
	r.must("into")
	x := api.Stmt{Kind: api.Insert, Table: r.name()}
	r.brackets(func() { x.Cols = list(r, maxNames, r.name) })
	r.must("values")
	r.brackets(func() { x.Values = list(r, maxNames, r.expr) })
	return x
}

func (r *reader) update() api.Stmt {
	x := api.Stmt{Kind: api.Update, Table: r.name()}
	r.must("set")
	x.Sets = list(r, maxSet, r.set)
	x.Where = r.condition("where")
	return x
}

func (r *reader) set() api.Set {
	at, name := r.here().At, r.name()
	r.must("=")
	return api.Set{Name: name, Expr: r.expr(), At: at}
}

func (r *reader) deletion() api.Stmt {
	r.must("from")
	return api.Stmt{Kind: api.Delete, Table: r.name(), Where: r.condition("where")}
}
