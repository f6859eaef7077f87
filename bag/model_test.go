package bag_test

import (
	"math/big"
	"slices"
	"testing"

	"lockstep/api"
	"lockstep/bag"
	"lockstep/catalog"
	"lockstep/expr"
	"lockstep/parse"
	"lockstep/value"
)

// The chapter told once more, plainly: all rows side by side as one row each, all expressions beside all columns, each thing held against each other one.

// plainCheck is Check.
func plainCheck(c *catalog.Catalog, d api.Data) api.Errno {
	if c == nil || len(d) != len(c.Tables()) {
		return api.ErrArg
	}
	found := map[api.Errno]int{}
	for i, form := range c.Tables() {
		plainRows(form, d[i], found)
	}
	for _, why := range []api.Errno{api.ErrArg, api.ErrNull, api.ErrLong, api.ErrTwice, api.ErrFull} {
		if found[why] > 0 {
			return why
		}
	}
	return api.OK
}

// plainRows counts all that is wrong with a table's rows.
func plainRows(form api.Table, l []api.Row, found map[api.Errno]int) {
	if len(l) > form.Most {
		found[api.ErrFull]++
	}
	for n, r := range l {
		if len(r) != len(form.Cols) {
			found[api.ErrArg]++
			continue
		}
		for i, v := range r {
			switch c := form.Cols[i]; {
			case value.Check(v) != api.OK || v.Type != api.Null && v.Type != c.Type:
				found[api.ErrArg]++
			case v.Type == api.Null && c.NotNull:
				found[api.ErrNull]++
			case v.Type == api.Text && len(v.Text) > c.Most:
				found[api.ErrLong]++
			}
		}
		for _, o := range l[:n] {
			for _, k := range form.Keys {
				if k.Unique && len(o) == len(r) && clash(k, r, o) {
					found[api.ErrTwice]++
				}
			}
		}
	}
}

func clash(k api.Key, a, b api.Row) bool {
	for _, col := range k.Cols {
		if a[col].Type == api.Null || !value.Same(a[col], b[col]) {
			return false
		}
	}
	return true
}

// plainRun is what Run says.
type plainRun struct {
	forms  []api.Table
	d      api.Data
	x      api.Stmt
	params []api.Col
	args   api.Row
}

func modelRun(c *catalog.Catalog, d api.Data, x api.Stmt, params []api.Col, args api.Row) outcome {
	if c == nil {
		return outcome{why: api.ErrArg}
	}
	if why := plainCheck(c, d); why != api.OK {
		return outcome{why: why}
	}
	if _, why := c.Check(x, params); why != api.OK {
		return outcome{why: why}
	}
	if len(args) != len(params) {
		return outcome{why: api.ErrArg}
	}
	for i, v := range args {
		if value.Check(v) != api.OK || v.Type != api.Null && v.Type != params[i].Type {
			return outcome{why: api.ErrArg}
		}
	}
	m := plainRun{c.Tables(), d, x, params, args}
	if x.Kind == api.Select {
		answered, _ := c.Answer(x, params)
		return m.selects(answered)
	}
	return m.change(c)
}

// eval is an expression beside columns.
func (m *plainRun) eval(e api.Expr, cols []api.Col, row api.Row) (api.Value, api.Errno) {
	return expr.Eval(e, api.Scope{Cols: cols, Params: m.params}, row, m.args)
}

// said is an error as it is gathered: the least one counts.
type said []api.Errno

func (s *said) note(why api.Errno) {
	if why != api.OK {
		*s = append(*s, why)
	}
}

func (s said) least() api.Errno {
	if len(s) == 0 {
		return api.OK
	}
	return slices.Min(s)
}

// beside is a condition and the columns that it may name.
type beside struct {
	e    api.Expr
	cols []api.Col
}

// holds is a condition of all Parts of several: of a row, of which each sees as many values as it sees columns.
func (m *plainRun) holds(row api.Row, errors *said, conds ...beside) bool {
	var own said
	all := true
	for _, b := range conds {
		if b.e.Op == "" {
			continue
		}
		for _, p := range expr.Parts(b.e) {
			v, why := m.eval(p, b.cols, row[:len(b.cols)])
			own.note(why)
			if why == api.OK && (v.Type != api.Bool || v.Int != 1) {
				all = false
			}
		}
	}
	if !all {
		return false
	}
	errors.note(own.least())
	return len(own) == 0
}

func (m *plainRun) form(name string) int {
	return slices.IndexFunc(m.forms, func(t api.Table) bool { return t.Name == name })
}

// cross is all rows side by side.
func cross(lists [][]api.Row) []api.Row {
	out := []api.Row{{}}
	for _, l := range lists {
		var next []api.Row
		for _, ahead := range out {
			for _, r := range l {
				next = append(next, append(slices.Clone(ahead), r...))
			}
		}
		out = next
	}
	return out
}

func (m *plainRun) selects(answered []api.Col) outcome {
	limit := int64(1 << 62)
	if m.x.Limit.Op != "" {
		v, why := m.eval(m.x.Limit, nil, nil)
		if why != api.OK {
			return outcome{why: why}
		}
		if v.Type == api.Null || v.Int < 0 {
			return outcome{why: api.ErrArg}
		}
		limit = v.Int
	}
	var cols []api.Col
	var lists [][]api.Row
	var conds []beside
	ways := big.NewInt(1)
	for i, f := range m.x.From {
		place := m.form(f.Table)
		for _, c := range m.forms[place].Cols {
			cols = append(cols, api.Col{Of: f.As, Name: c.Name, Type: c.Type})
		}
		lists = append(lists, m.d[place])
		ways.Mul(ways, big.NewInt(int64(len(m.d[place]))))
		if i > 0 {
			conds = append(conds, beside{f.On, slices.Clone(cols)})
		}
	}
	if ways.Cmp(big.NewInt(api.MaxTried)) > 0 {
		return outcome{why: api.ErrLong}
	}
	conds = append(conds, beside{m.x.Where, cols})
	var wrong said
	var held []api.Row
	for _, r := range cross(lists) {
		if m.holds(r, &wrong, conds...) {
			held = append(held, r)
		}
	}
	if len(wrong) > 0 {
		return outcome{why: wrong.least()}
	}
	l, why := m.answers(cols, held)
	if why != api.OK {
		return outcome{why: why}
	}
	return m.finish(l, answered, limit)
}

// answers is a row of each row, or of each group.
func (m *plainRun) answers(cols []api.Col, held []api.Row) ([]api.Row, api.Errno) {
	var wrong said
	var l []api.Row
	isGrouped := len(m.x.Group) > 0
	for _, it := range m.x.Items {
		isGrouped = isGrouped || it.Agg != ""
	}
	if !isGrouped {
		for _, r := range held {
			l = append(l, m.row(cols, []api.Row{r}, &wrong))
		}
		return l, wrong.least()
	}
	for _, g := range m.groups(cols, held, &wrong) {
		l = append(l, m.row(cols, g, &wrong))
	}
	return l, wrong.least()
}

func (m *plainRun) groups(cols []api.Col, held []api.Row, wrong *said) [][]api.Row {
	if len(m.x.Group) == 0 {
		return [][]api.Row{held}
	}
	var groups [][]api.Row
	var keys []api.Row
	for _, r := range held {
		var key api.Row
		for _, e := range m.x.Group {
			v, why := m.eval(e, cols, r)
			wrong.note(why)
			if why == api.OK {
				key = append(key, v)
			}
		}
		if len(key) < len(m.x.Group) {
			for _, it := range m.x.Items {
				if it.Agg == "" || !it.Star {
					_, why := m.eval(it.Expr, cols, r)
					wrong.note(why)
				}
			}
			continue
		}
		i := slices.IndexFunc(keys, func(k api.Row) bool { return value.Rows(k, key) == 0 })
		if i < 0 {
			i = len(keys)
			keys, groups = append(keys, key), append(groups, nil)
		}
		groups[i] = append(groups[i], r)
	}
	return groups
}

// row is what a group answers.
func (m *plainRun) row(cols []api.Col, group []api.Row, wrong *said) api.Row {
	var out api.Row
	for _, it := range m.x.Items {
		var v api.Value
		var why api.Errno
		switch {
		case it.Agg != "":
			v, why = m.agg(it, cols, group)
		case len(group) == 0:
			v, why = m.eval(it.Expr, nil, nil)
		default:
			v, why = m.eval(it.Expr, cols, group[0])
		}
		wrong.note(why)
		out = append(out, v)
	}
	return out
}

func (m *plainRun) agg(it api.Item, cols []api.Col, group []api.Row) (api.Value, api.Errno) {
	if it.Star {
		return num(int64(len(group))), api.OK
	}
	var wrong said
	var l []api.Value
	for _, r := range group {
		v, why := m.eval(it.Expr, cols, r)
		wrong.note(why)
		isSame := func(o api.Value) bool { return value.Same(v, o) }
		if v.Type != api.Null && !(it.Distinct && slices.ContainsFunc(l, isSame)) {
			l = append(l, v)
		}
	}
	if len(wrong) > 0 {
		return null(), wrong.least()
	}
	if it.Agg == "count" {
		return num(int64(len(l))), api.OK
	}
	if len(l) == 0 {
		return null(), api.OK
	}
	sum, least, most := new(big.Rat), l[0], l[0]
	for _, v := range l {
		sum.Add(sum, big.NewRat(v.Int, 1))
		if value.Order(v, least) < 0 {
			least = v
		}
		if value.Order(v, most) > 0 {
			most = v
		}
	}
	switch it.Agg {
	case "min":
		return least, api.OK
	case "max":
		return most, api.OK
	case "sum":
		return nearest(sum, l[0].Type)
	}
	if l[0].Type == api.BigInt {
		sum.Mul(sum, big.NewRat(api.Scale, 1))
	}
	return nearest(sum.Quo(sum, big.NewRat(int64(len(l)), 1)), api.Dec)
}

// finish is HAVING, DISTINCT, ORDER and LIMIT.
func (m *plainRun) finish(l []api.Row, answered []api.Col, limit int64) outcome {
	var wrong said
	var out []api.Row
	for _, r := range l {
		if !m.holds(r, &wrong, beside{m.x.Having, answered}) {
			continue
		}
		isSame := func(o api.Row) bool { return value.Rows(r, o) == 0 }
		if !m.x.Distinct || !slices.ContainsFunc(out, isSame) {
			out = append(out, r)
		}
	}
	if len(wrong) > 0 {
		return outcome{why: wrong.least()}
	}
	if len(out) > api.MaxAnswer {
		return outcome{why: api.ErrLong}
	}
	for n := range out { // each goes ahead of those that it belongs ahead of
		for i := n; i > 0 && m.ahead(out[i], out[i-1], answered); i-- {
			out[i], out[i-1] = out[i-1], out[i]
		}
	}
	return outcome{rows: out[:min(limit, int64(len(out)))]}
}

func (m *plainRun) ahead(a, b api.Row, answered []api.Col) bool {
	for _, o := range m.x.Order {
		i := slices.IndexFunc(answered, func(c api.Col) bool { return c.Name == o.Name })
		if c := value.Order(a[i], b[i]); c != 0 {
			return (c < 0) != o.Desc
		}
	}
	return value.Rows(a, b) < 0
}

func (m *plainRun) change(c *catalog.Catalog) outcome {
	place := m.form(m.x.Table)
	form := m.forms[place]
	var cols []api.Col
	for _, k := range form.Cols {
		cols = append(cols, api.Col{Of: form.Name, Name: k.Name, Type: k.Type})
	}
	var wrong, wrongValues said
	set := func(r api.Row, name string, v api.Value, why api.Errno) {
		i := slices.IndexFunc(form.Cols, func(k api.Column) bool { return k.Name == name })
		if why == api.OK {
			v, why = value.Cast(v, form.Cols[i].Type)
		}
		wrongValues.note(why)
		r[i] = v
	}
	var l []api.Row
	n := int64(0)
	for _, r := range m.d[place] {
		r = slices.Clone(r)
		if m.x.Kind != api.Insert && m.holds(r, &wrong, beside{m.x.Where, cols}) {
			n++
			if m.x.Kind == api.Delete {
				continue
			}
			was := slices.Clone(r)
			for _, s := range m.x.Sets {
				v, why := m.eval(s.Expr, cols, was)
				set(r, s.Name, v, why)
			}
		}
		l = append(l, r)
	}
	if m.x.Kind == api.Insert {
		r := make(api.Row, len(form.Cols))
		for i, name := range m.x.Cols {
			v, why := m.eval(m.x.Values[i], nil, nil)
			set(r, name, v, why)
		}
		l, n = append(l, r), 1
	}
	if len(wrong) > 0 || len(wrongValues) > 0 {
		if len(wrong) == 0 {
			wrong = wrongValues
		}
		return outcome{why: wrong.least()}
	}
	d := slices.Clone(m.d)
	d[place] = l
	if why := plainCheck(c, d); why != api.OK {
		return outcome{why: why}
	}
	return outcome{rows: []api.Row{{num(n)}}, data: d}
}

// agrees checks that Run answers what the model says, which it answers.
func agrees(t *testing.T, c *catalog.Catalog, d api.Data, x api.Stmt, params []api.Col, args api.Row) outcome {
	t.Helper()
	got, want := run(t, c, d, x, params, args), modelRun(c, d, x, params, args)
	if got.why != want.why || told(got.rows) != told(want.rows) || !bag.Same(got.data, want.data) {
		s, _ := parse.PrintStmt(x)
		t.Errorf("%s, over %v, %v: %s %v %v, not %s %v %v", s, d, args, told(got.rows), got.data, got.why, told(want.rows), want.data, want.why)
	}
	return got
}
