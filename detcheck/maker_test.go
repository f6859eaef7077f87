package detcheck_test

import (
	"fmt"
	"math/rand"
	"slices"
	"strings"
	"testing"

	"lockstep/api"
	"lockstep/bag"
	"lockstep/catalog"
	"lockstep/value"
)

// maker makes tables, statements and rows at random.
type maker struct {
	*rand.Rand
	t *testing.T
	c *catalog.Catalog
}

func newMaker(t *testing.T, seed int64) *maker {
	m := &maker{Rand: rand.New(rand.NewSource(seed)), t: t}
	m.tables()
	return m
}

// one tells of every n one.
func (m *maker) one(n int) bool { return m.Intn(n) == 0 }

func pick[T any](m *maker, l ...T) T { return l[m.Intn(len(l))] }

// some is some of a list, in any order.
func some[T any](m *maker, l []T) []T {
	var out []T
	for _, i := range m.Perm(len(l))[:m.Intn(len(l)+1)] {
		out = append(out, l[i])
	}
	return out
}

// tables makes a new catalog of three tables with keys of all kinds, of which some are partitioned.
func (m *maker) tables() {
	m.c = made(m.t, m.schema())
}

func (m *maker) schema() string {
	types := []string{"", "BIGINT", "DECIMAL", "VARCHAR(3)", "BOOLEAN"}
	s := ""
	for n := range 3 {
		names := []string{"a", "b", "c", "d"}[:2+m.Intn(3)]
		var elems []string
		for _, name := range names {
			elems = append(elems, name+" "+types[pick(m, 1, 1, 1, 1, 2, 2, 3, 4)]+pick(m, "", " NOT NULL", " NOT NULL"))
		}
		part := ""
		if !m.one(3) {
			part = pick(m, names...)
		}
		key := func(kind string, many int) {
			var l []string
			for _, i := range m.Perm(len(names))[:min(many, len(names))] {
				l = append(l, names[i])
			}
			if part != "" && !strings.HasPrefix(kind, "INDEX") && !slices.Contains(l, part) {
				l[m.Intn(len(l))] = part
			}
			elems = append(elems, kind+" ("+strings.Join(l, ", ")+")")
		}
		key("PRIMARY KEY", pick(m, 1, 1, 2, 2, 3))
		for i := range m.Intn(4) {
			key(fmt.Sprint(pick(m, "UNIQUE", "UNIQUE", "INDEX"), " k", i), pick(m, 1, 1, 2, 2, 3, 4))
		}
		s += fmt.Sprint("CREATE TABLE t", n, " (", strings.Join(elems, ", "), ")")
		if part != "" {
			s += " PARTITION BY " + part
		}
		s += ";\n"
	}
	return s
}

// value is a literal of a type; of few, so that many are the same.
func (m *maker) value(typ int) string {
	switch typ {
	case api.BigInt:
		return pick(m, "0", "1", "2", "2", "3")
	case api.Dec:
		return pick(m, "0.0", "1.0", "1.5", "2.0")
	case api.Text:
		return pick(m, "''", "'a'", "'b'", "'1'")
	}
	return pick(m, "TRUE", "FALSE")
}

// param is one of a type.
func (m *maker) param(typ int) string {
	return []string{":p", ":q", ":r", ":f"}[typ-1] + pick(m, "", "", "", "2")
}

// name writes a column, with its table's name or, if the name is one alone there, without.
func (m *maker) name(c api.Col, cols []api.Col) string {
	isSame := func(o api.Col) bool { return o.Name == c.Name && o.Of != c.Of }
	if m.one(2) && !slices.ContainsFunc(cols, isSame) {
		return c.Name
	}
	return c.Of + "." + c.Name
}

// ofType is a column of a type, or of one that can be held against it; a value, if there is none.
func (m *maker) ofType(typ int, cols []api.Col) string {
	var l []string
	for _, c := range cols {
		if c.Type == typ || c.Type <= api.Dec && typ <= api.Dec && m.one(3) {
			l = append(l, m.name(c, cols))
		}
	}
	if len(l) == 0 {
		return m.value(typ)
	}
	return pick(m, l...)
}

// fixed is an expression of a type that names no column.
func (m *maker) fixed(typ int) string {
	switch m.Intn(9) {
	case 0:
		return m.value(typ)
	case 1:
		return "COALESCE(" + m.param(typ) + ", NULL)"
	case 2:
		return "NULL"
	case 3:
		if typ <= api.Dec {
			return m.param(api.BigInt+api.Dec-typ) + pick(m, "", " + 1", " / 0")
		}
	}
	return m.param(typ)
}

// equal is a condition that a column is the same as something.
func (m *maker) equal(of, cols []api.Col) string {
	c := pick(m, of...)
	l := []string{m.name(c, cols), m.fixed(c.Type)}
	if m.one(2) {
		l[1] = m.ofType(c.Type, cols)
	}
	m.Shuffle(2, func(i, k int) { l[i], l[k] = l[k], l[i] })
	return l[0] + " = " + l[1]
}

// part is a condition that says that columns are fixed, or seems to.
func (m *maker) part(of, cols []api.Col) string {
	e := m.equal(of, cols)
	switch m.Intn(24) {
	case 0:
		return pick(m, "TRUE", "NOT "+e, "("+e+" OR "+m.equal(of, cols)+")", "("+e+") = TRUE", "COALESCE("+e+", TRUE)", "CASE WHEN TRUE THEN "+e+" ELSE FALSE END")
	case 1:
		return "(" + e + " AND " + m.equal(of, cols) + ")"
	case 2:
		c := pick(m, of...)
		return m.name(c, cols) + pick(m, " < ", " <> ", " >= ") + m.ofType(c.Type, cols)
	case 3:
		return m.name(pick(m, of...), cols) + " IS" + pick(m, "", " NOT") + " NULL"
	}
	return e
}

// condition is one of so many Parts.
func (m *maker) condition(many int, of, cols []api.Col) string {
	var l []string
	for range many {
		l = append(l, m.part(of, cols))
	}
	if len(l) == 0 {
		return "TRUE"
	}
	return strings.Join(l, " AND ")
}

func scope(form api.Table, as string) []api.Col {
	var l []api.Col
	for _, c := range form.Cols {
		l = append(l, api.Col{Of: as, Name: c.Name, Type: c.Type})
	}
	return l
}

// stmt is a statement.
func (m *maker) stmt() string {
	form := pick(m, m.c.Tables()...)
	own := scope(form, form.Name)
	where := ""
	if !m.one(8) {
		where = " WHERE " + m.condition(1+m.Intn(4), own, own)
	}
	switch m.Intn(8) {
	case 0:
		return m.insert(form)
	case 1:
		return "DELETE FROM " + form.Name + where
	case 2:
		c := pick(m, form.Cols...)
		return "UPDATE " + form.Name + " SET " + c.Name + " = " + pick(m, m.value(c.Type), c.Name) + where
	}
	return m.selects(pick(m, 1, 1, 1, 2, 2, 3))
}

func (m *maker) insert(form api.Table) string {
	var names, values []string
	for _, i := range m.Perm(len(form.Cols)) {
		c := form.Cols[i]
		if m.one(8) && len(names) > 0 {
			continue
		}
		typ := c.Type
		if m.one(5) && typ == api.Dec {
			typ = api.BigInt
		}
		names, values = append(names, c.Name), append(values, pick(m, m.value(typ), m.param(typ), m.param(typ), m.fixed(typ)))
	}
	return "INSERT INTO " + form.Name + " (" + strings.Join(names, ", ") + ") VALUES (" + strings.Join(values, ", ") + ")"
}

// selects is a SELECT of so many Froms.
func (m *maker) selects(froms int) string {
	s := " FROM "
	var cols []api.Col
	for i := range froms {
		form := pick(m, m.c.Tables()...)
		own := scope(form, fmt.Sprint("x", i))
		cols = append(cols, own...)
		if i > 0 {
			s += " JOIN "
		}
		s += form.Name + fmt.Sprint(" AS x", i)
		if i > 0 {
			s += " ON " + m.condition(m.Intn(4), pick(m, own, cols), cols)
		}
	}
	if !m.one(4) {
		s += " WHERE " + m.condition(m.Intn(4), cols, cols)
	}
	var group []string
	isGrouped := m.one(3)
	if isGrouped && !m.one(5) {
		for range 1 + m.Intn(3) {
			group = append(group, m.term(cols))
		}
		s += " GROUP BY " + strings.Join(group, ", ")
	}
	items, names := m.items(cols, group, isGrouped)
	if isGrouped && m.one(6) {
		s += " HAVING " + pick(m, "TRUE", ":p = 1", "1 < 2")
	}
	var orders []string
	for _, name := range some(m, names) {
		orders = append(orders, name+pick(m, "", "", " DESC"))
	}
	if len(orders) > 0 {
		if m.one(6) && len(orders) < api.MaxItems {
			orders = append(orders, orders[0])
		}
		s += " ORDER BY " + strings.Join(orders, ", ")
	}
	if m.one(8) {
		s += " LIMIT " + pick(m, "0", "1", "5", ":p")
	}
	return "SELECT " + pick(m, "", "", "DISTINCT ") + items + s
}

// term is something to be answered, or to be grouped by.
func (m *maker) term(cols []api.Col) string {
	c := pick(m, cols...)
	switch m.Intn(10) {
	case 0:
		return m.fixed(c.Type)
	case 1:
		return "COALESCE(" + m.name(c, cols) + ", " + m.value(c.Type) + ")"
	}
	return m.name(c, cols)
}

// items is what a SELECT answers, and the names by which that can be ordered.
func (m *maker) items(cols []api.Col, group []string, isGrouped bool) (string, []string) {
	var items, names []string
	if len(group) > 0 {
		items = some(m, group)
	} else if !isGrouped {
		for range m.Intn(2 * len(cols)) {
			items = append(items, m.term(cols))
		}
	}
	if isGrouped && (len(group) == 0 || !m.one(3)) {
		c := pick(m, cols...)
		items = append(items, pick(m, "COUNT(*)", "MAX("+m.name(c, cols)+")", "COUNT(DISTINCT "+m.name(c, cols)+")"))
	}
	if len(items) == 0 {
		items = append(items, "1")
	}
	items = items[:min(len(items), api.MaxItems)]
	for i := range items {
		if i > 0 && m.one(12) {
			continue // with the name that it has, or none: maybe one that is there
		}
		names = append(names, fmt.Sprint("n", i))
		items[i] += fmt.Sprint(" AS n", i)
	}
	return strings.Join(items, ", "), names
}

// parsed is a value of a literal's, or NULL.
func (m *maker) parsed(typ int, isNull bool) api.Value {
	if isNull {
		return api.Value{}
	}
	v, why := value.Parse(m.value(typ))
	if why != api.OK {
		m.t.Fatal(why)
	}
	return v
}

// data is tables that can be, of few rows each.
func (m *maker) data(most int) api.Data {
	forms := m.c.Tables()
	d := make(api.Data, len(forms))
	for place, form := range forms {
		for range most {
			var row api.Row
			for _, c := range form.Cols {
				row = append(row, m.parsed(c.Type, !c.NotNull && m.one(4)))
			}
			d[place] = append(d[place], row)
			if bag.Check(m.c, d) != api.OK { // a key that is there
				d[place] = d[place][:len(d[place])-1]
			}
		}
	}
	return d
}

func (m *maker) args() api.Row {
	var args api.Row
	for _, p := range theParams() {
		args = append(args, m.parsed(p.Type, m.one(12)))
	}
	return args
}
