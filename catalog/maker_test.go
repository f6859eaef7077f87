package catalog_test

import (
	"fmt"
	"math/rand"
	"slices"
	"strings"

	"lockstep/api"
)

// maker makes texts at random, of which some are right and some are wrong somewhere: of every so many choices one goes astray.
type maker struct {
	*rand.Rand
	astray int
	tables map[string][]api.Col // the columns of tables that may be named
	order  []string             // their names
	params []api.Col
}

func newMaker(seed int64) *maker {
	m := &maker{Rand: rand.New(rand.NewSource(seed)), tables: map[string][]api.Col{}}
	m.astray = []int{10, 40, 1 << 30}[m.Intn(3)]
	return m
}

// known lets tables be named.
func (m *maker) known(name string, cols []api.Col) {
	if _, is := m.tables[name]; !is {
		m.order = append(m.order, name)
	}
	m.tables[name] = cols
}

// one tells of every n one.
func (m *maker) one(n int) bool { return m.Intn(n) == 0 }

// wrong tells whether this is to go astray.
func (m *maker) wrong() bool { return m.one(m.astray) }

func pick[T any](m *maker, l ...T) T { return l[m.Intn(len(l))] }

// some is a list of one to n texts, commas between.
func (m *maker) some(n int, what func() string) string {
	var l []string
	for range 1 + m.Intn(n) {
		l = append(l, what())
	}
	return strings.Join(l, ", ")
}

// maybe is a text, or none.
func (m *maker) maybe(what func() string) string {
	if m.one(2) {
		return ""
	}
	return what()
}

// anyType is one of the four, or, rarely, that of NULL.
func (m *maker) anyType() int {
	if m.one(12) {
		return api.Null
	}
	return 1 + m.Intn(4)
}

func literal(m *maker, typ int) string {
	switch typ {
	case api.BigInt:
		return pick(m, "0", "1", "7")
	case api.Dec:
		return pick(m, "0.5", "1.0")
	case api.Text:
		return pick(m, "''", "'x'")
	case api.Bool:
		return pick(m, "TRUE", "FALSE")
	}
	return "NULL"
}

// leaf is a column or parameter of a type, or a value.
func (m *maker) leaf(typ int, cols []api.Col) string {
	if m.wrong() {
		return pick(m, "zz", ":zz", "t.zz", "a", "b")
	}
	var l []string
	for _, c := range cols {
		if c.Type == typ && c.Name != "" {
			name := quoted(c.Name)
			if c.Of != "" && !m.one(5) {
				name = quoted(c.Of) + "." + name
			}
			l = append(l, name, name)
		}
	}
	for _, p := range m.params {
		if p.Type == typ {
			l = append(l, ":"+p.Name)
		}
	}
	return pick(m, append(l, literal(m, typ))...)
}

// expr is an expression of a type, in brackets where it needs them.
func (m *maker) expr(typ, deep int, cols []api.Col) string {
	if m.wrong() {
		typ = m.anyType()
	}
	if deep == 0 || m.one(3) {
		return m.leaf(typ, cols)
	}
	sub := func(typ int) string { return m.expr(typ, deep-1, cols) }
	switch typ {
	case api.BigInt:
		return pick(m, func() string { return "(" + sub(1) + pick(m, " + ", " * ", " - ") + sub(1) + ")" }, func() string { return "LENGTH(" + sub(3) + ")" }, func() string { return "(-" + sub(1) + ")" })()
	case api.Dec:
		return pick(m, func() string { return "(" + sub(1) + " + " + sub(2) + ")" }, func() string { return "CAST(" + sub(1) + " AS DECIMAL)" }, func() string { return "COALESCE(" + sub(2) + ", " + sub(1) + ")" })()
	case api.Text:
		return pick(m, func() string { return "(" + sub(3) + " || " + sub(3) + ")" }, func() string { return "CASE WHEN " + sub(4) + " THEN " + sub(3) + " ELSE NULL END" })()
	case api.Bool:
		same := 1 + m.Intn(4)
		return pick(m, func() string { return "(" + sub(same) + pick(m, " = ", " < ", " <> ") + sub(same) + ")" }, func() string { return "(" + sub(4) + pick(m, " AND ", " OR ") + sub(4) + ")" }, func() string { return "(NOT " + sub(4) + ")" }, func() string { return "(" + sub(same) + " IS NULL)" })()
	}
	return "COALESCE(NULL, NULL)"
}

// condition is one, or NULL; of something else, if it goes astray.
func (m *maker) condition(cols []api.Col) string {
	if m.one(20) {
		return "NULL"
	}
	return m.expr(api.Bool, 2, cols)
}

// table is the name of one that is there, or, if it goes astray or there is none, of none.
func (m *maker) table() string {
	if m.wrong() || len(m.order) == 0 {
		return "zz"
	}
	return pick(m, m.order...)
}

func (m *maker) stmt() string {
	switch m.Intn(6) {
	case 0:
		return m.insert()
	case 1:
		return m.update()
	case 2:
		name := m.table()
		return "DELETE FROM " + quoted(name) + m.maybe(func() string { return " WHERE " + m.condition(m.scope(name, name)) })
	}
	return m.selects(4)
}

// scope is the columns of a table under a name.
func (m *maker) scope(name, as string) []api.Col {
	var l []api.Col
	for _, c := range m.tables[name] {
		l = append(l, api.Col{Of: as, Name: c.Name, Type: c.Type})
	}
	return l
}

// fitting is an expression for a column.
func (m *maker) fitting(typ int, cols []api.Col) string {
	if m.one(10) {
		typ = api.Null
	} else if typ == api.Dec && m.one(3) {
		typ = api.BigInt
	}
	return m.expr(typ, 2, cols)
}

// someCols is some columns of a table, in any order; if it goes astray, one of them is none, or twice.
func (m *maker) someCols(name string) []api.Col {
	var l []api.Col
	for _, i := range m.Perm(len(m.tables[name])) {
		l = append(l, m.tables[name][i])
	}
	l = l[:min(len(l), 1+m.Intn(4))]
	if m.wrong() || len(l) == 0 {
		l = append(l, pick(m, append(slices.Clone(l), col("zz", 1))...))
	}
	return l
}

func (m *maker) insert() string {
	name := m.table()
	var names, values []string
	for _, c := range m.someCols(name) {
		names, values = append(names, quoted(c.Name)), append(values, m.fitting(c.Type, nil))
	}
	if m.wrong() {
		values = append(values, "1")
	}
	return "INSERT INTO " + quoted(name) + " (" + strings.Join(names, ", ") + ") VALUES (" + strings.Join(values, ", ") + ")"
}

func (m *maker) update() string {
	name := m.table()
	cols := m.scope(name, name)
	var sets []string
	for _, c := range m.someCols(name) {
		if c.Name != "a" || m.one(10) { // by a tables are partitioned
			sets = append(sets, quoted(c.Name)+" = "+m.fitting(c.Type, cols))
		}
	}
	if len(sets) == 0 {
		sets = []string{"b = NULL"}
	}
	return "UPDATE " + quoted(name) + " SET " + strings.Join(sets, ", ") + m.maybe(func() string { return " WHERE " + m.condition(cols) })
}

// selects is a SELECT of at most so many items.
func (m *maker) selects(items int) string {
	var cols []api.Col
	from := ""
	for i := range 1 + m.Intn(3) {
		name := m.table()
		as := fmt.Sprint("x", i)
		if m.wrong() {
			as = pick(m, "x0", "x1", name)
		}
		cols = append(cols, m.scope(name, as)...)
		if i > 0 {
			from += " JOIN "
		}
		from += quoted(name) + " AS " + quoted(as)
		if i > 0 {
			from += " ON " + m.condition(cols)
		}
	}
	list, group, answered := m.items(items, cols)
	s := "SELECT " + pick(m, "", "DISTINCT ") + strings.Join(list, ", ") + " FROM " + from
	s += m.maybe(func() string { return " WHERE " + m.condition(cols) })
	if len(group) > 0 {
		s += " GROUP BY " + strings.Join(group, ", ")
	}
	isGrouped := len(group) > 0 || strings.Contains(strings.Join(list, ","), "(*)")
	if isGrouped && m.one(2) || m.wrong() {
		s += " HAVING " + m.condition(answered)
	}
	if m.one(2) {
		s += m.ordered(answered)
	}
	return s + m.maybe(func() string { return " LIMIT " + m.bound() })
}

// bound is a number or a parameter.
func (m *maker) bound() string {
	if len(m.params) > 0 && m.one(2) {
		if p := pick(m, m.params...); p.Type == api.BigInt || m.wrong() {
			return ":" + p.Name
		}
	}
	return pick(m, "0", "3")
}

// ordered is an ORDER BY of what is answered.
func (m *maker) ordered(answered []api.Col) string {
	var names []string
	for _, c := range answered {
		if c.Name != "" && m.one(2) {
			names = append(names, quoted(c.Name))
		}
	}
	if m.wrong() {
		names = append(names, "zz")
	}
	if len(names) == 0 {
		return ""
	}
	return " ORDER BY " + strings.Join(names, ", ")
}

// items is those of a SELECT, by what they are grouped, and the columns that they answer (of aggregates just about).
func (m *maker) items(most int, cols []api.Col) ([]string, []string, []api.Col) {
	var list, group []string
	var answered []api.Col
	isGrouped := m.one(2)
	for i := range 1 + m.Intn(most) {
		typ := m.anyType()
		e := m.expr(typ, 2, cols)
		isAgg := isGrouped && m.one(2)
		if isAgg {
			word := pick(m, "COUNT", "MIN", "MAX", "SUM", "AVG")
			switch {
			case word == "COUNT" && m.one(2):
				e, typ = "*", api.BigInt
			case word == "COUNT":
				typ = api.BigInt
			case word == "SUM" || word == "AVG":
				typ = 1 + m.Intn(2)
				e = m.expr(typ, 2, cols)
				typ = map[string]int{"SUM": typ, "AVG": api.Dec}[word]
			}
			e = word + "(" + e + ")"
		} else if isGrouped && !m.wrong() {
			group = append(group, e)
		}
		name := fmt.Sprint("n", i)
		if m.wrong() {
			name = pick(m, "n0", "n1", "a")
		}
		if m.one(4) && !isAgg && !strings.HasPrefix(e, "x") && !strings.HasPrefix(e, "a") {
			answered = append(answered, col("", typ))
		} else {
			e += " AS " + name
			answered = append(answered, col(name, typ))
		}
		list = append(list, e)
	}
	return list, group, answered
}

// decl is a declaration; what it declares may be named from then on.
func (m *maker) decl() string {
	if m.one(2) || len(m.order) == 0 {
		return m.tableDecl()
	}
	return m.procDecl()
}

func (m *maker) sqlType(typ int) string {
	return []string{"", "BIGINT", "DECIMAL", "VARCHAR(3)", "BOOLEAN"}[typ]
}

func (m *maker) tableDecl() string {
	var elems, names []string
	var cols []api.Col
	for _, name := range []string{"a", "b", "c", "\"A b\""}[:1+m.Intn(4)] {
		if m.wrong() {
			name = "a"
		}
		typ := 1 + m.Intn(4)
		names, cols = append(names, name), append(cols, col(strings.Trim(name, "\""), typ))
		elems = append(elems, name+" "+m.sqlType(typ)+pick(m, "", " NOT NULL"))
	}
	part := m.one(2)
	key := func(needsPart bool) string {
		l := []string{pick(m, names...)}
		if needsPart && !m.wrong() {
			l = []string{"a"}
		}
		if more := pick(m, names...); !slices.Contains(l, more) || m.wrong() {
			l = append(l, more)
		}
		if m.wrong() {
			l = append(l, "zz")
		}
		return " (" + strings.Join(l, ", ") + ")"
	}
	if !m.wrong() {
		elems = append(elems, "PRIMARY KEY"+key(part))
	}
	for i := range m.Intn(3) {
		name := fmt.Sprint("k", i)
		if m.wrong() {
			name = pick(m, "k0", "\"primary\"", "\"Primary\"")
		}
		if m.one(2) {
			elems = append(elems, "INDEX "+name+key(false))
		} else {
			elems = append(elems, "UNIQUE "+name+key(part))
		}
	}
	m.Shuffle(len(elems), func(i, j int) { elems[i], elems[j] = elems[j], elems[i] })
	slices.SortStableFunc(elems, byColumn)
	name := fmt.Sprint("t", len(m.order))
	if m.wrong() {
		name = pick(m, "t0", "t1")
	}
	m.known(name, cols)
	s := "CREATE TABLE " + name + " (" + strings.Join(elems, ", ") + ")"
	if part {
		s += " PARTITION BY " + pick(m, "a", "a", "a", "a", pick(m, append(names, "zz")...))
	}
	return s + pick(m, "", " LIMIT 1", " LIMIT 4096") + ";"
}

// byColumn leaves columns where they are among one another, so that they stand as m has them; keys may stand anywhere behind.
func byColumn(a, b string) int {
	rank := func(s string) int {
		for i, p := range []string{"a ", "b ", "c ", "\"A b\" "} {
			if strings.HasPrefix(s, p) {
				return i
			}
		}
		return 9
	}
	return rank(a) - rank(b)
}

func (m *maker) procDecl() string {
	m.params = nil
	var params []string
	for i := range m.Intn(4) {
		c := col(fmt.Sprint("p", i), 1+m.Intn(4))
		if m.wrong() {
			c.Name = "p0"
		}
		params = append(params, c.Name+" "+m.sqlType(c.Type))
		m.params = append(m.params, c)
	}
	s := "CREATE PROCEDURE " + fmt.Sprint("f", m.Intn(200)) + " (" + strings.Join(params, ", ") + ")"
	if len(m.params) > 0 && m.one(2) || m.wrong() {
		s += " PARTITION BY " + pick(m, append(slices.Clone(m.params), col("zz", 1))[:max(1, len(m.params))]...).Name
	}
	s += " AS BEGIN "
	for i := range 1 + m.Intn(4) {
		switch {
		case m.one(3):
			name := fmt.Sprint("n", i)
			if m.wrong() {
				name = pick(m, "p0", "n0")
			}
			s += "LET " + name + " = " + m.let()
			m.params = append(m.params, col(name, api.BigInt)) // a good guess
		case m.one(3):
			s += "ABORT 'x' IF " + m.condition(nil)
		default:
			s += m.stmt()
		}
		s += "; "
	}
	return s + "END;"
}

// let is mostly a SELECT of one number.
func (m *maker) let() string {
	if m.wrong() {
		return m.selects(2)
	}
	name := m.table()
	return "SELECT " + pick(m, "COUNT(*)", "MAX("+m.expr(1, 1, m.scope(name, name))+")", "1") + " FROM " + quoted(name) + m.maybe(func() string { return " WHERE " + m.condition(m.scope(name, name)) })
}

// schema is some declarations, a line each.
func (m *maker) schema() string {
	s := ""
	for range 1 + m.Intn(6) {
		s += m.decl() + "\n"
	}
	return s
}
