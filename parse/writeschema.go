package parse

import "lockstep/api"

func (w *writer) schema(l []api.Decl) {
	w.need(len(l) <= api.MaxDecls)
	for i := range l {
		w.decl(&l[i])
	}
}

func (w *writer) decl(d *api.Decl) {
	w.say("CREATE")
	if d.Table.Name != "" {
		w.table(d)
	} else {
		w.proc(&d.Proc)
	}
	w.say(";")
	w.WriteByte('\n')
	w.tight = true
}

func (w *writer) table(d *api.Decl) {
	t := &d.Table
	w.say("TABLE")
	w.name(t.Name)
	w.brackets(func() {
		writeList(w, t.Cols, api.MaxCols, w.column)
		w.keys(d)
	})
	w.partition(d.Part)
	if t.Most != 0 {
		w.say("LIMIT")
		w.number(t.Most, api.MaxRows)
	}
}

// partition writes by which name something is partitioned; nothing, if that is empty.
func (w *writer) partition(name string) {
	if name != "" {
		w.say("PARTITION", "BY")
		w.name(name)
	}
}

func (w *writer) column(c *api.Column) {
	w.name(c.Name)
	w.sqlType(c.Type, c.Most)
	if c.NotNull {
		w.say("NOT", "NULL")
	}
}

// keys writes those of a table, each behind a comma. The first one is the primary one, or stands for none.
func (w *writer) keys(d *api.Decl) {
	t := &d.Table
	w.need(len(t.Keys) >= 1 && len(t.Keys) == len(d.Cols) && keysOf(t) <= maxKeys)
	if first := t.Keys[0]; hasPrimary(t) {
		w.need(first.Name == "primary" && first.Unique)
		w.say(",", "PRIMARY", "KEY")
		w.names(d.Cols[0], api.MaxKey)
	} else {
		w.need(!first.Unique && len(d.Cols[0]) == 0)
	}
	for i := 1; i < len(t.Keys); i++ {
		w.say(",")
		w.key(&t.Keys[i], d.Cols[i])
	}
}

func (w *writer) key(k *api.Key, cols []string) {
	if k.Unique {
		w.say("UNIQUE")
	} else {
		w.say("INDEX")
	}
	w.name(k.Name)
	w.names(cols, api.MaxKey)
}

func (w *writer) proc(p *api.Proc) {
	w.say("PROCEDURE")
	w.name(p.Name)
	w.brackets(func() {
		if len(p.Params) > 0 {
			writeList(w, p.Params, api.MaxParams, w.param)
		}
	})
	w.partition(p.Part)
	w.say("AS", "BEGIN")
	w.need(len(p.Steps) >= 1 && len(p.Steps) <= api.MaxSteps)
	for i := range p.Steps {
		w.step(&p.Steps[i])
		w.say(";")
	}
	w.say("END")
}

// param writes a column of which nothing says that it can't be NULL.
func (w *writer) param(c *api.Column) {
	w.need(!c.NotNull)
	w.column(c)
}

func (w *writer) step(s *api.Step) {
	switch s.Kind {
	case api.Run:
		w.stmt(&s.Stmt)
	case api.Let:
		w.need(s.Stmt.Kind == api.Select)
		w.say("LET")
		w.name(s.Name)
		w.say("=")
		w.stmt(&s.Stmt)
	case api.Abort:
		w.begun = 0
		w.say("ABORT")
		w.value(api.Value{Type: api.Text, Text: s.Text})
		w.say("IF")
		w.expr(&s.Cond)
	default:
		w.refuse()
	}
}
