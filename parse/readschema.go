package parse

import "lockstep/api"

func (r *reader) schema() []api.Decl {
	var l []api.Decl
	for r.here().Kind != api.End {
		r.room(len(l), api.MaxDecls)
		l = append(l, r.decl())
	}
	return l
}

func (r *reader) decl() api.Decl {
	at := r.here().At
	r.must("create")
	var d api.Decl
	switch {
	case r.take("table"):
		d = r.table()
	case r.take("procedure"):
		d.Proc = r.proc()
		d.Proc.At = at
	default:
		r.wrong()
	}
	r.must(";")
	d.At = at
	return d
}

// table has a place for the primary key ahead of the others, even if none is declared.
func (r *reader) table() api.Decl {
	d := api.Decl{Cols: make([][]string, 1)}
	d.Table = api.Table{Name: r.name(), Keys: make([]api.Key, 1)}
	r.brackets(func() {
		r.commas(func() { r.elem(&d) })
		if len(d.Table.Cols) == 0 {
			r.wrong()
		}
	})
	d.Part = r.partition()
	if r.take("limit") {
		d.Table.Most = r.number(api.MaxRows)
	}
	return d
}

// elem reads what begins with none of a key's words as a column.
func (r *reader) elem(d *api.Decl) {
	t := &d.Table
	switch {
	case r.has("primary") && hasPrimary(t):
		r.wrong()
	case r.has("primary", "unique", "index"):
		r.room(keysOf(t), maxKeys)
		r.key(d)
	default:
		r.room(len(t.Cols), api.MaxCols)
		c := r.param()
		if r.take("not") {
			r.must("null")
			c.NotNull = true
		}
		t.Cols = append(t.Cols, c)
	}
}

func (r *reader) key(d *api.Decl) {
	if r.take("primary") {
		r.must("key")
		d.Table.Keys[0] = api.Key{Name: "primary", Unique: true}
		d.Cols[0] = r.keyColumns()
		return
	}
	unique := r.take("unique")
	if !unique {
		r.must("index")
	}
	d.Table.Keys = append(d.Table.Keys, api.Key{Name: r.name(), Unique: unique})
	d.Cols = append(d.Cols, r.keyColumns())
}

// partition is the name by which something is partitioned; empty, if that is left out.
func (r *reader) partition() string {
	if !r.take("partition") {
		return ""
	}
	r.must("by")
	return r.name()
}

func (r *reader) keyColumns() []string {
	var l []string
	r.brackets(func() { l = list(r, api.MaxKey, r.name) })
	return l
}

// param reads a name and a type, which a column begins with, too.
func (r *reader) param() api.Column {
	c := api.Column{Name: r.name()}
	c.Type, c.Most = r.sqlType()
	return c
}

func (r *reader) proc() api.Proc {
	p := api.Proc{Name: r.name()}
	r.brackets(func() {
		if !r.has(")") {
			p.Params = list(r, api.MaxParams, r.param)
		}
	})
	p.Part = r.partition()
	r.must("as", "begin")
	p.Steps = r.steps()
	return p
}

func (r *reader) steps() []api.Step {
	var l []api.Step
	for len(l) == 0 || !r.take("end") {
		r.room(len(l), api.MaxSteps)
		l = append(l, r.step())
		r.must(";")
	}
	return l
}

func (r *reader) step() api.Step {
	at := r.here().At
	switch {
	case r.take("let"):
		name := r.name()
		r.must("=")
		if !r.has("select") {
			r.wrong()
		}
		return api.Step{Kind: api.Let, Name: name, Stmt: r.stmt(), At: at}
	case r.take("abort"):
		text := r.text()
		r.must("if")
		r.begun = 0
		return api.Step{Kind: api.Abort, Text: text, Cond: r.expr(), At: at}
	}
	return api.Step{Kind: api.Run, Stmt: r.stmt(), At: at}
}

func (r *reader) text() string {
	t := r.here()
	if t.Kind != api.Literal || t.Value.Type != api.Text {
		r.wrong()
	}
	r.ahead++
	return t.Value.Text
}
