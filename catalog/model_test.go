package catalog_test

import (
	"slices"
	"strings"
	"testing"

	"lockstep/api"
	"lockstep/catalog"
	"lockstep/expr"
)

// claim is something that is wrong, and where the chapter names it: of two claims that of the lower rank is told.
type claim struct {
	rank []int
	fault
}

// judge goes through all that may be wrong, whatever else is, and keeps every claim.
type judge struct {
	tables map[string]api.Table
	params []api.Col
	ahead  []int // the rank of what is looked at within a greater thing
	claims []claim
}

// claim notes that something is wrong, if it is so.
func (j *judge) claim(so bool, at int, why api.Errno, rank ...int) {
	if so {
		j.claims = append(j.claims, claim{append(slices.Clone(j.ahead), rank...), fault{at, why}})
	}
}

// first is the claim of the lowest rank.
func (j *judge) first() fault {
	if len(j.claims) == 0 {
		return fault{}
	}
	return slices.MinFunc(j.claims, func(a, b claim) int { return slices.Compare(a.rank, b.rank) }).fault
}

// typ is the type of an expression; what is wrong in it is claimed.
func (j *judge) typ(e api.Expr, cols []api.Col, rank ...int) int {
	typ, at, why := expr.Type(e, api.Scope{Cols: cols, Params: j.params})
	j.claim(why != api.OK, at, why, append(rank, 0)...)
	if why != api.OK {
		return -1
	}
	return typ
}

func (j *judge) bool(e api.Expr, cols []api.Col, rank ...int) {
	if e.Op != "" {
		typ := j.typ(e, cols, rank...)
		j.claim(typ > 0 && typ != api.Bool, e.At, api.ErrType, append(rank, 1)...)
	}
}

func (j *judge) cols(table, as string) []api.Col {
	var l []api.Col
	for _, c := range j.tables[table].Cols {
		l = append(l, api.Col{Of: as, Name: c.Name, Type: c.Type})
	}
	return l
}

func count[T any](l []T, is func(x T) bool) int {
	n := 0
	for _, x := range l {
		if is(x) {
			n++
		}
	}
	return n
}

// stmt is the columns that a statement answers.
func (j *judge) stmt(x api.Stmt) []api.Col {
	if x.Kind == api.Select {
		return j.selects(x)
	}
	t, is := j.tables[x.Table]
	j.claim(!is, x.At, api.ErrName, 0)
	place := func(name string) int {
		return slices.IndexFunc(t.Cols, func(c api.Column) bool { return c.Name == name })
	}
	fits := func(e api.Expr, cols []api.Col, name string, rank ...int) {
		typ, to := j.typ(e, cols, append(rank, 8)...), -1
		if i := place(name); i >= 0 {
			to = t.Cols[i].Type
		}
		j.claim(typ > 0 && to > 0 && typ != to && !(typ == api.BigInt && to == api.Dec), e.At, api.ErrType, append(rank, 9)...)
	}
	switch x.Kind {
	case api.Insert:
		j.claim(len(x.Values) != len(x.Cols), x.At, api.ErrArg, 1)
		for i, name := range x.Cols {
			j.claim(place(name) < 0, x.At, api.ErrName, 2)
			j.claim(slices.Contains(x.Cols[:i], name), x.At, api.ErrTable, 3)
		}
		for i, e := range x.Values {
			fits(e, nil, append(x.Cols, slices.Repeat([]string{"no column"}, 17)...)[i], 4, i)
		}
	case api.Update:
		for i, s := range x.Sets {
			j.claim(place(s.Name) < 0, s.At, api.ErrName, 4, i, 0)
			j.claim(count(x.Sets[:i], func(y api.Set) bool { return y.Name == s.Name }) > 0, s.At, api.ErrTable, 4, i, 1)
			j.claim(t.Part >= 0 && place(s.Name) == t.Part, s.At, api.ErrPart, 4, i, 2)
			fits(s.Expr, j.cols(x.Table, x.Table), s.Name, 4, i)
		}
	}
	if x.Kind != api.Insert {
		j.bool(x.Where, j.cols(x.Table, x.Table), 5)
	}
	return []api.Col{col("count", api.BigInt)}
}

func (j *judge) selects(x api.Stmt) []api.Col {
	var cols, answered []api.Col
	for i, f := range x.From {
		_, is := j.tables[f.Table]
		j.claim(!is, f.At, api.ErrName, 0, i, 0)
		j.claim(count(x.From[:i], func(y api.From) bool { return y.As == f.As }) > 0, f.At, api.ErrTable, 0, i, 1)
		cols = append(cols, j.cols(f.Table, f.As)...)
		if i > 0 {
			j.bool(f.On, cols, 1, i)
		}
	}
	j.bool(x.Where, cols, 2)
	for i, g := range x.Group {
		j.typ(g, cols, 3, i)
	}
	for i, m := range x.Items {
		typ := api.BigInt
		if !m.Star {
			typ = j.typ(m.Expr, cols, 4, i)
		}
		j.claim((typ == api.Text || typ == api.Bool) && (m.Agg == "sum" || m.Agg == "avg"), m.At, api.ErrType, 4, i, 1)
		switch m.Agg {
		case "count":
			typ = api.BigInt
		case "avg":
			typ = api.Dec
		}
		answered = append(answered, col(m.Name, typ))
		j.claim(m.Name != "" && count(x.Items[:i], func(y api.Item) bool { return y.Name == m.Name }) > 0, m.At, api.ErrTable, 6, i)
	}
	j.groups(x)
	j.bool(x.Having, answered, 7)
	for i, o := range x.Order {
		j.claim(count(x.Items, func(m api.Item) bool { return m.Name == o.Name }) == 0, o.At, api.ErrName, 8, i)
	}
	if x.Limit.Op != "" {
		typ := j.typ(x.Limit, nil, 9)
		j.claim(typ >= 0 && typ != api.BigInt, x.Limit.At, api.ErrType, 9, 1)
	}
	return answered
}

func (j *judge) groups(x api.Stmt) {
	grouped := len(x.Group)+count(x.Items, func(m api.Item) bool { return m.Agg != "" }) > 0
	j.claim(!grouped && x.Having.Op != "", x.Having.At, api.ErrGroup, 5)
	for i, m := range x.Items {
		of := count(x.Group, func(g api.Expr) bool { return expr.Same(g, m.Expr) })
		j.claim(grouped && m.Agg == "" && of == 0 && !expr.Fixed(m.Expr), m.At, api.ErrGroup, 5, i)
	}
}

// plainSchema is what is wrong with declarations, and the tables and procedures that they are.
func plainSchema(l []api.Decl) (fault, []api.Table, []api.Proc) {
	j := &judge{tables: map[string]api.Table{}}
	procs := map[string]api.Proc{}
	for i, d := range l {
		j.ahead = []int{i}
		if d.Table.Name != "" {
			t := j.table(d)
			j.tables[t.Name] = t
			continue
		}
		_, is := procs[d.Proc.Name]
		j.claim(is, d.At, api.ErrTable, 0)
		j.proc(d)
		procs[d.Proc.Name] = d.Proc
	}
	if wrong := j.first(); wrong.why != api.OK {
		return wrong, nil, nil
	}
	var tables []api.Table
	var all []api.Proc
	for _, t := range j.tables {
		tables = append(tables, t)
	}
	for _, p := range procs {
		all = append(all, p)
	}
	slices.SortFunc(tables, func(a, b api.Table) int { return strings.Compare(a.Name, b.Name) })
	slices.SortFunc(all, func(a, b api.Proc) int { return strings.Compare(a.Name, b.Name) })
	return fault{}, tables, all
}

func (j *judge) table(d api.Decl) api.Table {
	t := api.Table{Name: d.Table.Name, Cols: slices.Clone(d.Table.Cols), Part: -1, Most: d.Table.Most}
	_, is := j.tables[t.Name]
	j.claim(is, d.At, api.ErrTable, 0)
	place := map[string]int{}
	for i, c := range t.Cols {
		_, twice := place[c.Name]
		j.claim(twice, d.At, api.ErrTable, 1)
		place[c.Name] = i
	}
	if d.Part != "" {
		t.Part, is = place[d.Part]
		j.claim(!is, d.At, api.ErrPart, 3)
	}
	j.claim(d.Table.Keys[0].Name != "primary", d.At, api.ErrKey, 2)
	for i, k := range d.Table.Keys {
		j.claim(i > 0 && k.Name == "primary" || count(d.Table.Keys, func(o api.Key) bool { return o.Name == k.Name }) > 1, d.At, api.ErrTable, 1)
		k.Cols = nil
		for _, name := range d.Cols[i] {
			at, is := place[name]
			j.claim(!is || slices.Contains(k.Cols, at), d.At, api.ErrKey, 2)
			k.Cols = append(k.Cols, at)
			if i == 0 && is {
				t.Cols[at].NotNull = true
			}
		}
		j.claim(d.Part != "" && k.Unique && !slices.Contains(d.Cols[i], d.Part), d.At, api.ErrPart, 3)
		t.Keys = append(t.Keys, k)
	}
	if t.Most == 0 {
		t.Most = 4096
	}
	return t
}

func (j *judge) proc(d api.Decl) {
	p := d.Proc
	j.params = nil
	for _, c := range p.Params {
		j.claim(count(p.Params, func(o api.Column) bool { return o.Name == c.Name }) > 1, d.At, api.ErrTable, 0)
		j.params = append(j.params, col(c.Name, c.Type))
	}
	j.claim(p.Part != "" && count(p.Params, func(o api.Column) bool { return o.Name == p.Part }) == 0, d.At, api.ErrPart, 1)
	outer := j.ahead
	for i, s := range p.Steps {
		j.ahead = append(slices.Clone(outer), 2, i)
		switch s.Kind {
		case api.Abort:
			j.bool(s.Cond, nil, 0)
		case api.Run:
			j.stmt(s.Stmt)
		case api.Let:
			j.claim(count(j.params, func(o api.Col) bool { return o.Name == s.Name }) > 0, s.At, api.ErrTable, -1)
			cols := j.stmt(s.Stmt)
			j.claim(len(cols) != 1 || cols[0].Type == 0, s.At, api.ErrArg, 99)
			j.params = append(j.params, col(s.Name, max(1, cols[0].Type)))
		}
	}
	j.ahead = outer
}

// P11.3, P11.4: statements made at random are judged as by one who looks at everything, whatever else is wrong.
func TestStatementsByModel(t *testing.T) {
	told := map[api.Errno]int{}
	c := made(t, tables)
	for i := range 30000 {
		m := newMaker(int64(i))
		j := &judge{tables: map[string]api.Table{}}
		for _, x := range c.Tables() {
			j.tables[x.Name] = x
			m.known(x.Name, j.cols(x.Name, ""))
		}
		m.params = params()[:m.Intn(5)]
		j.params = m.params
		s := m.stmt()
		x := stmt(t, s)
		cols := j.stmt(x)
		want := j.first()
		told[want.why]++
		if want.why != api.OK {
			cols = nil
		}
		verdict(t, c, s, want, m.params...)
		if got, _ := c.Answer(x, m.params); !alike(got, cols) {
			t.Errorf("%s answers %v, not %v", s, got, cols)
		}
	}
	for _, why := range []api.Errno{api.OK, api.ErrArg, api.ErrName, api.ErrType, api.ErrParam, api.ErrTable, api.ErrPart, api.ErrGroup} {
		if told[why] < 100 || told[api.OK] < 10000 {
			t.Error("too few of a kind:", told)
		}
	}
}

// P11.1, P11.2: likewise declarations; and of those in which nothing is wrong all tables and procedures.
func TestSchemasByModel(t *testing.T) {
	told := map[api.Errno]int{}
	for i := range 12000 {
		s := newMaker(int64(i) + 1<<20).schema()
		l := schema(t, s)
		want, tables, procs := plainSchema(l)
		told[want.why]++
		loads(t, s, want)
		c, _, _ := catalog.New(l)
		if got := c.Tables(); !alike(got, tables) {
			t.Errorf("%s: %v, not %v", s, got, tables)
		}
		if got := c.Procs(); !alike(got, procs) {
			t.Errorf("%s: %v, not %v", s, got, procs)
		}
	}
	for _, why := range []api.Errno{api.OK, api.ErrArg, api.ErrName, api.ErrType, api.ErrParam, api.ErrTable, api.ErrKey, api.ErrPart, api.ErrGroup} {
		if told[why] < 10 || told[api.OK] < 3000 {
			t.Error("too few of a kind:", told)
		}
	}
}
