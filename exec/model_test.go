package exec_test

import (
	"lockstep/api"
	"lockstep/catalog"
	"lockstep/expr"
)

// model tells which plans a statement has, as chapter 15 says it, sentence by sentence.
type model struct {
	forms []api.Table
	scope []api.Col
	owner []int // of each column of the scope its From
	spot  []int // and its number there
	conds []api.Expr
	asked []api.Col
}

// modelOf is of a statement that the catalog does not refuse.
func modelOf(c *catalog.Catalog, x api.Stmt, params []api.Col) *model {
	m := &model{asked: params}
	add := func(as, name string) {
		form, _ := c.Table(name)
		for i, col := range form.Cols {
			m.scope = append(m.scope, api.Col{Of: as, Name: col.Name, Type: col.Type})
			m.owner, m.spot = append(m.owner, len(m.forms)), append(m.spot, i)
		}
		m.forms = append(m.forms, form)
	}
	if x.Kind == api.Select {
		for i, f := range x.From {
			add(f.As, f.Table)
			if i > 0 {
				m.note(f.On)
			}
		}
	} else if x.Kind == api.Update || x.Kind == api.Delete {
		add(x.Table, x.Table)
	}
	if x.Kind != api.Insert && x.Where.Op != "" {
		m.note(x.Where)
	}
	return m
}

// note takes the Parts of a condition in.
func (m *model) note(e api.Expr) {
	if e.Op == "and" {
		m.note(e.Parts[0])
		m.note(e.Parts[1])
		return
	}
	m.conds = append(m.conds, e)
}

// place is that of a column in the scope, below 0 if the name means nothing there.
func (m *model) place(e api.Expr) int {
	found, many := -1, 0
	for i, c := range m.scope {
		if c.Name == e.Name && (e.Of == "" || e.Of == c.Of) {
			found = i
			many++
		}
	}
	if many != 1 {
		return -1
	}
	return found
}

// onlyAhead tells whether an expression names only columns of Froms that were gone through.
func (m *model) onlyAhead(e api.Expr, ahead []int) bool {
	if e.Op == "column" {
		place := m.place(e)
		if place < 0 {
			return false
		}
		for _, from := range ahead {
			if from == m.owner[place] {
				return true
			}
		}
		return false
	}
	for _, p := range e.Parts {
		if !m.onlyAhead(p, ahead) {
			return false
		}
	}
	return true
}

// other is the other side of a condition that binds a column by a sign.
func (m *model) other(e api.Expr, from, col int, sign string, ahead []int) (api.Expr, bool) {
	mirrored := map[string]string{"=": "=", "<": ">", ">": "<", "<=": ">=", ">=": "<="}
	if len(e.Parts) != 2 {
		return api.Expr{}, false
	}
	try := func(side, other api.Expr) bool {
		place := -1
		if side.Op == "column" {
			place = m.place(side)
		}
		if place < 0 || m.owner[place] != from || m.spot[place] != col || !m.onlyAhead(other, ahead) {
			return false
		}
		typ, _, why := expr.Type(other, api.Scope{Cols: m.scope, Params: m.asked})
		want := m.forms[from].Cols[col].Type
		return why == api.OK && (typ == want || want == api.Dec && typ == api.BigInt)
	}
	if e.Op == sign && try(e.Parts[0], e.Parts[1]) {
		return e.Parts[1], true
	}
	if e.Op == mirrored[sign] && try(e.Parts[1], e.Parts[0]) {
		return e.Parts[0], true
	}
	return api.Expr{}, false
}

// others is all other sides of a column by a sign, each once.
func (m *model) others(from, col int, sign string, ahead []int) []api.Expr {
	var l []api.Expr
	for _, e := range m.conds {
		o, is := m.other(e, from, col, sign, ahead)
		for _, x := range l {
			is = is && !expr.Same(x, o)
		}
		if is {
			l = append(l, o)
		}
	}
	return l
}

// accesses is all ways to come to a From behind others.
func (m *model) accesses(from int, ahead []int) []api.Access {
	l := []api.Access{{From: from, Key: -1}}
	for key, k := range m.forms[from].Keys {
		l = append(l, m.further(api.Access{From: from, Key: key}, k.Cols, ahead)...)
	}
	return l
}

// further is all accesses that go by what one goes by, or by more.
func (m *model) further(a api.Access, cols, ahead []int) []api.Access {
	l := []api.Access{a}
	if len(a.Same) == len(cols) {
		return l
	}
	col := cols[len(a.Same)]
	for _, e := range m.others(a.From, col, "=", ahead) {
		b := a
		b.Same = append(a.Same[:len(a.Same):len(a.Same)], e)
		l = append(l, m.further(b, cols, ahead)...)
	}
	for _, b := range m.cut(a, "<", m.others(a.From, col, "<", ahead), m.others(a.From, col, "<=", ahead)) {
		l = append(l, m.cut(b, ">", m.others(a.From, col, ">", ahead), m.others(a.From, col, ">=", ahead))...)
	}
	return l[1:]
}

// cut is an access, and those that are cut off at one end besides.
func (m *model) cut(a api.Access, sign string, without, with []api.Expr) []api.Access {
	l := []api.Access{a}
	for i, e := range append(without, with...) {
		b := a
		if in := i >= len(without); sign == "<" {
			b.High, b.HighIn = e, in
		} else {
			b.Low, b.LowIn = e, in
		}
		l = append(l, b)
	}
	return l
}

// everyPlan is all plans of a statement. Of more than some number it tells some of all kinds.
func everyPlan(m *model, most int) [][]api.Access {
	plans := [][]api.Access{nil}
	for range m.forms {
		var longer [][]api.Access
		for _, p := range plans {
			var ahead []int
			for _, a := range p {
				ahead = append(ahead, a.From)
			}
			for from := range m.forms {
				if !contains(ahead, from) {
					for _, a := range m.accesses(from, ahead) {
						longer = append(longer, append(p[:len(p):len(p)], a))
					}
				}
			}
		}
		plans = thinned(longer, most)
	}
	return plans
}

// thinned is no more of a list than so many, by steps that are even.
func thinned(l [][]api.Access, most int) [][]api.Access {
	if len(l) <= most {
		return l
	}
	out := make([][]api.Access, 0, most)
	for i := range most {
		out = append(out, l[i*len(l)/most])
	}
	return out
}

func contains(l []int, n int) bool {
	for _, x := range l {
		if x == n {
			return true
		}
	}
	return false
}
