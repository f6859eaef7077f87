package exec_test

import (
	"fmt"
	"math/rand"
	"slices"
	"strings"
	"testing"

	"lockstep/api"
	"lockstep/bag"
	"lockstep/catalog"
	"lockstep/table"
	"lockstep/value"
)

// maker makes tables, rows, statements and plans at random.
type maker struct {
	*rand.Rand
	t *testing.T
	c *catalog.Catalog
}

func newMaker(t *testing.T, seed int64) *maker {
	m := &maker{Rand: rand.New(rand.NewSource(seed)), t: t}
	m.tables()
	return m
}

// one tells of every n one.
func (m *maker) one(n int) bool { return m.Intn(n) == 0 }

func pick[T any](m *maker, l ...T) T { return l[m.Intn(len(l))] }

// tables makes a new catalog of three tables, with keys of all kinds over few columns, and room for few rows or for many.
func (m *maker) tables() {
	types := []string{"", "BIGINT", "DECIMAL", "VARCHAR(3)", "BOOLEAN"}
	s := ""
	for n := range 3 {
		names := []string{"a", "b", "c", "d", "e"}[:2+m.Intn(4)]
		var elems []string
		for _, name := range names {
			elems = append(elems, name+" "+types[pick(m, 1, 1, 1, 1, 2, 2, 3, 4)]+pick(m, "", "", "", " NOT NULL"))
		}
		key := func() string {
			var l []string
			for _, i := range m.Perm(len(names))[:min(len(names), pick(m, 1, 1, 2, 2, 3, 4))] {
				l = append(l, names[i])
			}
			return " (" + strings.Join(l, ", ") + ")"
		}
		elems = append(elems, "PRIMARY KEY"+key())
		for i := range m.Intn(5) {
			elems = append(elems, fmt.Sprint(pick(m, "UNIQUE", "INDEX", "INDEX"), " k", i, key()))
		}
		s += fmt.Sprint("CREATE TABLE t", n, " (", strings.Join(elems, ", "), ")", pick(m, "", "", " LIMIT 5"), ";\n")
	}
	m.c = made(m.t, s)
}

// value is a literal of a type; of few, so that many are the same.
func (m *maker) value(typ int) string {
	switch typ {
	case api.BigInt:
		return pick(m, "0", "1", "2", "2", "3", "4", "9223372036854775807")
	case api.Dec:
		return pick(m, "0.0", "1.0", "1.5", "2.0", "3.0")
	case api.Text:
		return pick(m, "''", "'a'", "'b'", "'1'", "'abc'")
	case api.Bool:
		return pick(m, "TRUE", "FALSE")
	}
	return "NULL"
}

// load is tables of rows that can be, some of them under numbers with gaps.
func (m *maker) load() []*table.Table {
	d := make(api.Data, len(m.c.Tables()))
	for place, form := range m.c.Tables() {
		for range m.Intn(9) {
			var row api.Row
			for _, c := range form.Cols {
				v, _ := value.Parse(m.value(c.Type))
				if !c.NotNull && m.one(4) {
					v = null()
				}
				row = append(row, v)
			}
			d[place] = append(d[place], row)
			if bag.Check(m.c, d) != api.OK { // a key that is there, or no room
				d[place] = d[place][:len(d[place])-1]
			}
		}
	}
	l := loaded(m.t, m.c, d)
	if m.one(2) {
		wear(l)
	}
	return l
}

func (m *maker) args() api.Row {
	var args api.Row
	for _, p := range theParams() {
		v, _ := value.Parse(m.value(p.Type))
		if p.Name == "n" || m.one(6) {
			v = null()
		}
		args = append(args, v)
	}
	return args
}

// name writes a column, with its table's name or, if the name is one alone there, without.
func (m *maker) name(c api.Col, cols []api.Col) string {
	isSame := func(o api.Col) bool { return o.Name == c.Name && o.Of != c.Of }
	if c.Of == "" || m.one(3) && !slices.ContainsFunc(cols, isSame) {
		return c.Name
	}
	return c.Of + "." + c.Name
}

// leaf is a value, a parameter or a column of a type.
func (m *maker) leaf(typ int, cols []api.Col) string {
	l := []string{m.value(typ)}
	for _, p := range theParams() {
		if p.Type == typ {
			l = append(l, ":"+p.Name)
		}
	}
	for _, c := range cols {
		if c.Type == typ {
			name := m.name(c, cols)
			l = append(l, name, name)
		}
	}
	return pick(m, l...)
}

// side is something of a type: mostly a leaf; it may err.
func (m *maker) side(typ int, cols []api.Col) string {
	if m.one(25) {
		return "NULL"
	}
	leaf := func(typ int) string { return m.leaf(typ, cols) }
	if !m.one(3) {
		return leaf(typ)
	}
	switch typ {
	case api.BigInt:
		return pick(m, "("+leaf(1)+pick(m, " + ", " - ", " * ", " / ")+leaf(1)+")", "LENGTH("+leaf(3)+")", "CAST("+leaf(3)+" AS BIGINT)", "COALESCE("+leaf(1)+", "+leaf(1)+")", "(-"+leaf(1)+")")
	case api.Dec:
		return pick(m, "("+leaf(2)+pick(m, " + ", " / ")+leaf(pick(m, 1, 2))+")", "CAST("+leaf(1)+" AS DECIMAL)", "(NULL + "+leaf(2)+")")
	case api.Text:
		return pick(m, "("+leaf(3)+" || "+leaf(3)+")", "SUBSTR("+leaf(3)+", 1, "+leaf(1)+")", "CASE WHEN "+leaf(4)+" THEN "+leaf(3)+" ELSE NULL END")
	}
	return pick(m, "("+leaf(1)+" = "+leaf(1)+")", "(NOT "+leaf(4)+")", "("+leaf(3)+" IS NULL)")
}

// like is a type that may be held against another one.
func (m *maker) like(typ int) int {
	if m.one(4) && (typ == api.BigInt || typ == api.Dec) {
		return api.BigInt + api.Dec - typ
	}
	return typ
}

// test is a sign between a column, on one side or the other one, and something.
func (m *maker) test(of, cols []api.Col) string {
	c := pick(m, of...)
	l := []string{m.name(c, cols), m.side(m.like(c.Type), cols)}
	m.Shuffle(2, func(i, k int) { l[i], l[k] = l[k], l[i] })
	return "(" + l[0] + pick(m, " = ", " = ", " = ", " < ", " <= ", " > ", " >= ", " <> ") + l[1] + ")"
}

// condition is one of so many Parts, of which most bind one of some columns.
func (m *maker) condition(many int, of, cols []api.Col) string {
	l := []string{}
	for range many {
		part := m.test(of, cols)
		switch m.Intn(9) {
		case 0:
			part = pick(m, "TRUE", "NOT "+part, "("+part+" OR "+m.test(of, cols)+")", m.leaf(api.Bool, cols), "(NULL IS NULL)")
		case 1:
			part = "(" + part + " AND " + m.test(of, cols) + ")"
		case 2, 3: // mostly TRUE, or an error
			part = pick(m, "COALESCE(8 / "+m.leaf(api.BigInt, cols)+" <> 9, TRUE)", "COALESCE("+m.leaf(api.BigInt, cols)+" + 2 <> 9, TRUE)", "COALESCE(CAST("+m.leaf(api.Text, cols)+" || '1' AS BIGINT) <> 9, TRUE)")
		}
		l = append(l, part)
	}
	if len(l) == 0 {
		return "TRUE"
	}
	return strings.Join(l, " AND ")
}

func scope(form api.Table, as string) []api.Col {
	var l []api.Col
	for _, c := range form.Cols {
		l = append(l, api.Col{Of: as, Name: c.Name, Type: c.Type})
	}
	return l
}

// where is a WHERE of conditions that say much of few columns, or none.
func (m *maker) where(of, cols []api.Col) string {
	if m.one(6) {
		return ""
	}
	return " WHERE " + m.condition(m.Intn(5), of, cols)
}

func (m *maker) stmt() string {
	form := pick(m, m.c.Tables()...)
	own := scope(form, form.Name)
	switch m.Intn(8) {
	case 0:
		return m.insert(form)
	case 1:
		return "DELETE FROM " + form.Name + m.where(own, own)
	case 2, 3:
		return m.update(form, own)
	}
	return m.selects()
}

// fitting is an expression for a column.
func (m *maker) fitting(typ int, cols []api.Col) string {
	if typ == api.Dec && m.one(3) {
		typ = api.BigInt
	}
	return m.side(typ, cols)
}

func (m *maker) insert(form api.Table) string {
	var names, values []string
	for _, i := range m.Perm(len(form.Cols)) {
		if c := form.Cols[i]; c.NotNull && !m.one(12) || m.one(2) || len(names) == 0 {
			names, values = append(names, c.Name), append(values, m.fitting(c.Type, nil))
		}
	}
	return "INSERT INTO " + form.Name + " (" + strings.Join(names, ", ") + ") VALUES (" + strings.Join(values, ", ") + ")"
}

func (m *maker) update(form api.Table, cols []api.Col) string {
	var sets []string
	for _, c := range form.Cols {
		switch {
		case len(sets) > 0 && m.one(2):
		case c.Type == api.BigInt && m.one(2):
			sets = append(sets, c.Name+" = "+pick(m, c.Name+" + 1", "3 - "+c.Name, c.Name+" - 1"))
		case c.Type == api.Bool && m.one(2):
			sets = append(sets, c.Name+" = NOT "+c.Name)
		default:
			sets = append(sets, c.Name+" = "+m.fitting(c.Type, cols))
		}
	}
	return "UPDATE " + form.Name + " SET " + strings.Join(sets, ", ") + m.where(cols, cols)
}

// selects is a SELECT of all clauses.
func (m *maker) selects() string {
	from := ""
	var cols []api.Col
	for i := range pick(m, 1, 1, 2, 2, 2, 3, 3, 4) {
		form := pick(m, m.c.Tables()...)
		own := scope(form, fmt.Sprint("x", i))
		cols = append(cols, own...)
		if i > 0 {
			from += " JOIN "
		}
		from += form.Name + fmt.Sprint(" AS x", i)
		if i > 0 {
			from += " ON " + m.condition(m.Intn(4), pick(m, own, cols), cols)
		}
	}
	list, group, answered := m.items(cols)
	s := "SELECT " + pick(m, "", "", "DISTINCT ") + strings.Join(list, ", ") + " FROM " + from + m.where(cols, cols)
	if len(group) > 0 {
		s += " GROUP BY " + strings.Join(group, ", ")
	}
	if len(group) > 0 && m.one(2) {
		s += " HAVING " + m.condition(1, answered, answered)
	}
	var order []string
	for _, i := range m.Perm(len(answered))[:m.Intn(len(answered)+1)] {
		order = append(order, answered[i].Name+pick(m, "", " DESC"))
	}
	if len(order) > 0 {
		s += " ORDER BY " + strings.Join(order, ", ")
	}
	return s + pick(m, "", "", " LIMIT 2", " LIMIT :p", " LIMIT 0")
}

// items is those of a SELECT, by what they are grouped, and the columns that they answer.
func (m *maker) items(cols []api.Col) ([]string, []string, []api.Col) {
	var list, group []string
	var answered []api.Col
	isGrouped := m.one(2)
	for i := range 1 + m.Intn(4) {
		c := pick(m, cols...)
		e, typ := m.side(c.Type, cols), c.Type
		if isGrouped && i > 0 {
			e, typ = m.agg(typ, e, cols)
		} else if isGrouped {
			group = append(group, e)
		}
		if e == "NULL" {
			e, typ = "7", api.BigInt
			if isGrouped {
				group = []string{"7"}
			}
		}
		name := fmt.Sprint("n", i)
		list, answered = append(list, e+" AS "+name), append(answered, col(name, typ))
	}
	if isGrouped && m.one(4) {
		group = append(group, m.side(1+m.Intn(4), cols))
	}
	return list, group, answered
}

func (m *maker) agg(typ int, e string, cols []api.Col) (string, int) {
	word := pick(m, "COUNT", "MIN", "MAX", "SUM", "AVG", "SUM", "*")
	if word == "*" {
		return "COUNT(*)", api.BigInt
	}
	if word == "SUM" || word == "AVG" {
		typ = 1 + m.Intn(2)
		e = m.side(typ, cols)
	}
	if e == "NULL" {
		e = m.value(typ)
	}
	e = word + "(" + pick(m, "", "DISTINCT ") + e + ")"
	switch word {
	case "COUNT":
		typ = api.BigInt
	case "AVG":
		typ = api.Dec
	}
	return e, typ
}

// plan is accesses that are a plan: in any order, by any keys.
func (m *maker) plan(o *model) []api.Access {
	var l []api.Access
	var ahead []int
	for _, from := range m.Perm(len(o.forms)) {
		all := o.accesses(from, ahead)
		a := pick(m, all...)
		if m.one(2) {
			a = slices.MaxFunc(all, func(a, b api.Access) int { return goesBy(a) - goesBy(b) })
		}
		l, ahead = append(l, a), append(ahead, from)
	}
	return l
}

// goesBy is how many ends an access goes by.
func goesBy(a api.Access) int {
	n := len(a.Same)
	if a.Low.Op != "" {
		n++
	}
	if a.High.Op != "" {
		n++
	}
	return n
}
