package plan_test

import (
	"sort"

	"lockstep/api"
	"lockstep/catalog"
	"lockstep/expr"
	"lockstep/parse"
)

// model tells what the chapter says, sentence by sentence, with nothing reckoned ahead.
type model struct {
	as    []string
	forms []api.Table
	scope []api.Col
	owner []int // of each column of the scope its From
	spot  []int // and its number there
	conds []api.Expr
	asked []api.Col
}

// modelOf is of a statement that the catalog does not refuse.
func modelOf(c *catalog.Catalog, x api.Stmt, params []api.Col) *model {
	m := &model{asked: params}
	add := func(as, name string) {
		form, _ := c.Table(name)
		for i, col := range form.Cols {
			m.scope = append(m.scope, api.Col{Of: as, Name: col.Name, Type: col.Type})
			m.owner, m.spot = append(m.owner, len(m.forms)), append(m.spot, i)
		}
		m.as, m.forms = append(m.as, as), append(m.forms, form)
	}
	if x.Kind == api.Select {
		for i, f := range x.From {
			add(f.As, f.Table)
			if i > 0 {
				m.note(f.On)
			}
		}
	} else if x.Kind == api.Update || x.Kind == api.Delete {
		add(x.Table, x.Table)
	}
	if x.Kind != api.Insert && x.Where.Op != "" {
		m.note(x.Where)
	}
	return m
}

// note takes the Parts of a condition in.
func (m *model) note(e api.Expr) {
	if e.Op == "and" {
		m.note(e.Parts[0])
		m.note(e.Parts[1])
		return
	}
	m.conds = append(m.conds, e)
}

// place is that of a column in the scope, below 0 if the name means nothing there.
func (m *model) place(e api.Expr) int {
	found, many := -1, 0
	for i, c := range m.scope {
		if c.Name == e.Name && (e.Of == "" || e.Of == c.Of) {
			found = i
			many++
		}
	}
	if many != 1 { // two of one Of there are not
		return -1
	}
	return found
}

// onlyAhead tells whether an expression names only columns of Froms that were gone through.
func (m *model) onlyAhead(e api.Expr, ahead []int) bool {
	if e.Op == "column" {
		place := m.place(e)
		if place < 0 {
			return false
		}
		for _, from := range ahead {
			if from == m.owner[place] {
				return true
			}
		}
		return false
	}
	for _, p := range e.Parts {
		if !m.onlyAhead(p, ahead) {
			return false
		}
	}
	return true
}

// other is the other side of a condition that binds a column by a sign.
func (m *model) other(e api.Expr, from, col int, sign string, ahead []int) (api.Expr, bool) {
	mirrored := map[string]string{"=": "=", "<": ">", ">": "<", "<=": ">=", ">=": "<="}
	if len(e.Parts) != 2 {
		return api.Expr{}, false
	}
	try := func(side, other api.Expr) bool {
		place := -1
		if side.Op == "column" {
			place = m.place(side)
		}
		if place < 0 || m.owner[place] != from || m.spot[place] != col || !m.onlyAhead(other, ahead) {
			return false
		}
		typ, _, why := expr.Type(other, api.Scope{Cols: m.scope, Params: m.asked})
		want := m.forms[from].Cols[col].Type
		return why == api.OK && (typ == want || want == api.Dec && typ == api.BigInt)
	}
	if e.Op == sign && try(e.Parts[0], e.Parts[1]) {
		return e.Parts[1], true
	}
	if e.Op == mirrored[sign] && try(e.Parts[1], e.Parts[0]) {
		return e.Parts[0], true
	}
	return api.Expr{}, false
}

// others is all other sides of a column by a sign.
func (m *model) others(from, col int, sign string, ahead []int) []api.Expr {
	var l []api.Expr
	for _, e := range m.conds {
		if o, is := m.other(e, from, col, sign, ahead); is {
			l = append(l, o)
		}
	}
	return l
}

// firstOf is the first condition's other side by one of two signs, and which.
func (m *model) firstOf(from, col int, one, two string, ahead []int) (api.Expr, string) {
	for _, e := range m.conds {
		for _, sign := range []string{one, two} {
			if o, is := m.other(e, from, col, sign, ahead); is {
				return o, sign
			}
		}
	}
	return api.Expr{}, ""
}

// many is how many of a key's first columns are bound by =.
func (m *model) many(from, key int, ahead []int) int {
	n := 0
	for _, col := range m.forms[from].Keys[key].Cols {
		if len(m.others(from, col, "=", ahead)) == 0 {
			return n
		}
		n++
	}
	return n
}

// isFull tells whether an access binds all columns of a Unique key.
func (m *model) isFull(from, key, many int) bool {
	return key >= 0 && m.forms[from].Keys[key].Unique && many == len(m.forms[from].Keys[key].Cols)
}

// access is P15.1.
func (m *model) access(from int, ahead []int) api.Access {
	form := m.forms[from]
	var keys []int
	for key := range form.Keys {
		if m.many(from, key, ahead) > 0 {
			keys = append(keys, key)
		}
	}
	sort.SliceStable(keys, func(i, k int) bool {
		a, b := m.many(from, keys[i], ahead), m.many(from, keys[k], ahead)
		if a != b {
			return a > b
		}
		return m.isFull(from, keys[i], a) && !m.isFull(from, keys[k], b)
	})
	if len(keys) == 0 {
		for key, k := range form.Keys {
			for _, sign := range []string{"<", "<=", ">", ">="} {
				if len(keys) == 0 && len(m.others(from, k.Cols[0], sign, ahead)) > 0 {
					keys = []int{key}
				}
			}
		}
	}
	if len(keys) == 0 {
		return api.Access{From: from, Key: -1}
	}
	a := api.Access{From: from, Key: keys[0]}
	cols := form.Keys[a.Key].Cols
	n := m.many(from, a.Key, ahead)
	for _, col := range cols[:n] {
		a.Same = append(a.Same, m.others(from, col, "=", ahead)[0])
	}
	if n < len(cols) {
		sign := ""
		a.Low, sign = m.firstOf(from, cols[n], ">", ">=", ahead)
		a.LowIn = sign == ">="
		a.High, sign = m.firstOf(from, cols[n], "<", "<=", ahead)
		a.HighIn = sign == "<="
	}
	return a
}

// keep is those of which something holds, or all, if it holds of none.
func keep(l []api.Access, holds func(a api.Access) bool) []api.Access {
	var held []api.Access
	for _, a := range l {
		if holds(a) {
			held = append(held, a)
		}
	}
	if len(held) == 0 {
		return l
	}
	return held
}

// accesses is P15.2.
func (m *model) accesses() []api.Access {
	var l []api.Access
	var ahead []int
	for len(ahead) < len(m.forms) {
		var open []api.Access
		for from := range m.forms {
			gone := false
			for _, f := range ahead {
				gone = gone || f == from
			}
			if !gone {
				open = append(open, m.access(from, ahead))
			}
		}
		open = keep(open, func(a api.Access) bool { return m.isFull(a.From, a.Key, len(a.Same)) })
		most := 0
		for _, a := range open {
			most = max(most, len(a.Same))
		}
		open = keep(open, func(a api.Access) bool { return len(a.Same) == most })
		open = keep(open, func(a api.Access) bool { return a.Low.Op != "" || a.High.Op != "" })
		l, ahead = append(l, open[0]), append(ahead, open[0].From)
	}
	return l
}

// isThere tells whether an expression is one of some.
func isThere(e api.Expr, l []api.Expr) bool {
	for _, o := range l {
		if unplaced(e) == unplaced(o) {
			return true
		}
	}
	return false
}

// plainCheck is P15.3 of accesses. (Expressions hold nothing that plays no part.)
func (m *model) plainCheck(l []api.Access) api.Errno {
	var ahead []int
	for _, a := range l {
		for _, from := range ahead {
			if from == a.From {
				return api.ErrPlan
			}
		}
		if a.From < 0 || a.From >= len(m.forms) || a.Key < -1 || a.Key >= len(m.forms[a.From].Keys) {
			return api.ErrPlan
		}
		if a.Key == -1 {
			if len(a.Same) > 0 || a.Low.Op != "" || a.High.Op != "" {
				return api.ErrPlan
			}
			ahead = append(ahead, a.From)
			continue
		}
		cols := m.forms[a.From].Keys[a.Key].Cols
		if len(a.Same) > len(cols) {
			return api.ErrPlan
		}
		for i, e := range a.Same {
			if !isThere(e, m.others(a.From, cols[i], "=", ahead)) {
				return api.ErrPlan
			}
		}
		for _, end := range []struct {
			e     api.Expr
			in    bool
			signs [2]string
		}{{a.Low, a.LowIn, [2]string{">", ">="}}, {a.High, a.HighIn, [2]string{"<", "<="}}} {
			if end.e.Op == "" {
				continue
			}
			sign := end.signs[0]
			if end.in {
				sign = end.signs[1]
			}
			if len(a.Same) == len(cols) || !isThere(end.e, m.others(a.From, cols[len(a.Same)], sign, ahead)) {
				return api.ErrPlan
			}
		}
		ahead = append(ahead, a.From)
	}
	if len(ahead) != len(m.forms) {
		return api.ErrPlan
	}
	return api.OK
}

// plainPrint is P15.4 of accesses, of a statement whose Scope is there.
func (m *model) plainPrint(l []api.Access) (string, api.Errno) {
	s := ""
	for _, a := range l {
		if a.From < 0 || a.From >= len(m.forms) || a.Key < -1 || a.Key >= len(m.forms[a.From].Keys) {
			return "", api.ErrArg
		}
		s += m.as[a.From] + " "
		var cols []int
		if a.Key == -1 {
			s += "all"
		} else {
			s += m.forms[a.From].Keys[a.Key].Name
			cols = m.forms[a.From].Keys[a.Key].Cols
		}
		if len(a.Same) > len(cols) || len(a.Same) == len(cols) && (a.Low.Op != "" || a.High.Op != "") {
			return "", api.ErrArg
		}
		var told []string
		for i, e := range a.Same {
			text, why := parse.PrintExpr(e)
			if why != api.OK {
				return "", api.ErrArg
			}
			told = append(told, m.forms[a.From].Cols[cols[i]].Name+" = "+text)
		}
		if a.Low.Op != "" {
			text, why := parse.PrintExpr(a.Low)
			if why != api.OK {
				return "", api.ErrArg
			}
			told = append(told, m.forms[a.From].Cols[cols[len(a.Same)]].Name+map[bool]string{false: " > ", true: " >= "}[a.LowIn]+text)
		}
		if a.High.Op != "" {
			text, why := parse.PrintExpr(a.High)
			if why != api.OK {
				return "", api.ErrArg
			}
			told = append(told, m.forms[a.From].Cols[cols[len(a.Same)]].Name+map[bool]string{false: " < ", true: " <= "}[a.HighIn]+text)
		}
		for _, x := range told {
			s += " " + x
		}
		s += "\n"
	}
	return s, api.OK
}
