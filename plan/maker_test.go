package plan_test

import (
	"fmt"
	"math/rand"
	"slices"
	"strings"
	"testing"

	"lockstep/api"
	"lockstep/catalog"
)

// maker makes tables, statements and plans at random.
type maker struct {
	*rand.Rand
	t *testing.T
	c *catalog.Catalog
}

func newMaker(t *testing.T, seed int64) *maker {
	m := &maker{Rand: rand.New(rand.NewSource(seed)), t: t}
	m.tables()
	return m
}

// one tells of every n one.
func (m *maker) one(n int) bool { return m.Intn(n) == 0 }

func pick[T any](m *maker, l ...T) T { return l[m.Intn(len(l))] }

// tables makes a new catalog of three tables, with keys of all kinds over few columns.
func (m *maker) tables() {
	types := []string{"", "BIGINT", "DECIMAL", "VARCHAR(3)", "BOOLEAN"}
	s := ""
	for n := range 3 {
		names := []string{"a", "b", "c", "d", "e"}[:2+m.Intn(4)]
		var elems []string
		for _, name := range names {
			elems = append(elems, name+" "+types[pick(m, 1, 1, 1, 1, 2, 2, 3, 4)])
		}
		key := func() string {
			var l []string
			for _, i := range m.Perm(len(names))[:min(len(names), pick(m, 1, 1, 2, 2, 3, 4))] {
				l = append(l, names[i])
			}
			return " (" + strings.Join(l, ", ") + ")"
		}
		elems = append(elems, "PRIMARY KEY"+key())
		for i := range m.Intn(5) {
			elems = append(elems, fmt.Sprint(pick(m, "UNIQUE", "INDEX"), " k", i, key()))
		}
		s += fmt.Sprint("CREATE TABLE t", n, " (", strings.Join(elems, ", "), ");\n")
	}
	m.c = made(m.t, s)
}

// value is a literal of a type; of few, so that many are the same.
func (m *maker) value(typ int) string {
	switch typ {
	case api.BigInt:
		return pick(m, "0", "1", "2", "2", "3")
	case api.Dec:
		return pick(m, "0.0", "1.0", "1.5", "2.0")
	case api.Text:
		return pick(m, "''", "'a'", "'b'", "'1'")
	case api.Bool:
		return pick(m, "TRUE", "FALSE")
	}
	return "NULL"
}

// name writes a column, with its table's name or, if the name is one alone there, without.
func (m *maker) name(c api.Col, cols []api.Col) string {
	isSame := func(o api.Col) bool { return o.Name == c.Name && o.Of != c.Of }
	if m.one(3) && !slices.ContainsFunc(cols, isSame) {
		return c.Name
	}
	return c.Of + "." + c.Name
}

// leaf is a value, a parameter or a column of a type.
func (m *maker) leaf(typ int, cols []api.Col) string {
	l := []string{m.value(typ)}
	for _, p := range theParams() {
		if p.Type == typ {
			l = append(l, ":"+p.Name)
		}
	}
	for _, c := range cols {
		if c.Type == typ {
			name := m.name(c, cols)
			l = append(l, name, name)
		}
	}
	return pick(m, l...)
}

// side is something that may be held against a column of a type: mostly of that type.
func (m *maker) side(typ int, cols []api.Col) string {
	if m.one(25) {
		return "NULL"
	}
	if m.one(4) && (typ == api.BigInt || typ == api.Dec) {
		typ = api.BigInt + api.Dec - typ
	}
	leaf := func(typ int) string { return m.leaf(typ, cols) }
	if !m.one(3) {
		return leaf(typ)
	}
	switch typ {
	case api.BigInt:
		return pick(m, "("+leaf(1)+pick(m, " + ", " - ", " * ", " / ")+leaf(1)+")", "LENGTH("+leaf(3)+")", "CAST("+leaf(3)+" AS BIGINT)", "COALESCE("+leaf(1)+", "+leaf(1)+")", "(-"+leaf(1)+")")
	case api.Dec:
		return pick(m, "("+leaf(2)+pick(m, " + ", " / ")+leaf(pick(m, 1, 2))+")", "CAST("+leaf(1)+" AS DECIMAL)", "(NULL + "+leaf(2)+")")
	case api.Text:
		return pick(m, "("+leaf(3)+" || "+leaf(3)+")", "SUBSTR("+leaf(3)+", 1, "+leaf(1)+")", "CASE WHEN "+leaf(4)+" THEN "+leaf(3)+" ELSE NULL END")
	}
	return pick(m, "("+leaf(1)+" = "+leaf(1)+")", "(NOT "+leaf(4)+")", "("+leaf(3)+" IS NULL)")
}

// test is a sign between a column, on one side or the other one, and something.
func (m *maker) test(of, cols []api.Col) string {
	c := pick(m, of...)
	l := []string{m.name(c, cols), m.side(c.Type, cols)}
	m.Shuffle(2, func(i, k int) { l[i], l[k] = l[k], l[i] })
	return "(" + l[0] + pick(m, " = ", " = ", " = ", " = ", " < ", " <= ", " > ", " >= ", " <> ") + l[1] + ")"
}

// condition is one of so many Parts, of which most bind one of some columns.
func (m *maker) condition(many int, of, cols []api.Col) string {
	l := []string{}
	for range many {
		part := m.test(of, cols)
		switch m.Intn(12) {
		case 0:
			part = pick(m, "TRUE", "NOT "+part, "("+part+" OR "+m.test(of, cols)+")", m.leaf(api.Bool, cols), "(NULL IS NULL)")
		case 1:
			part = "(" + part + " AND " + m.test(of, cols) + ")"
		}
		l = append(l, part)
	}
	if len(l) == 0 {
		return "TRUE"
	}
	return strings.Join(l, " AND ")
}

func scope(form api.Table, as string) []api.Col {
	var l []api.Col
	for _, c := range form.Cols {
		l = append(l, api.Col{Of: as, Name: c.Name, Type: c.Type})
	}
	return l
}

// stmt is a statement, whose conditions say much of few columns.
func (m *maker) stmt() string {
	form := pick(m, m.c.Tables()...)
	own := scope(form, form.Name)
	where := func() string {
		if m.one(8) {
			return ""
		}
		return " WHERE " + m.condition(m.Intn(6), own, own)
	}
	switch m.Intn(12) {
	case 0:
		return "INSERT INTO " + form.Name + " (" + form.Cols[0].Name + ") VALUES (" + m.value(form.Cols[0].Type) + ")"
	case 1, 2:
		return "DELETE FROM " + form.Name + where()
	case 3:
		return "UPDATE " + form.Name + " SET " + form.Cols[0].Name + " = " + m.value(form.Cols[0].Type) + where()
	}
	return m.selects(pick(m, 1, 1, 2, 2, 2, 3, 3, 4))
}

// selects is a SELECT of so many Froms.
func (m *maker) selects(froms int) string {
	s := "SELECT COUNT(*) FROM "
	var cols []api.Col
	for i := range froms {
		form := pick(m, m.c.Tables()...)
		own := scope(form, fmt.Sprint("x", i))
		cols = append(cols, own...)
		if i > 0 {
			s += " JOIN "
		}
		s += form.Name + fmt.Sprint(" AS x", i)
		if i > 0 {
			s += " ON " + m.condition(m.Intn(4), pick(m, own, cols), cols)
		}
	}
	if m.one(5) {
		return s
	}
	return s + " WHERE " + m.condition(m.Intn(5), cols, cols)
}

// plan is accesses that go by conditions, mostly such as are a plan: in any order, by any keys, as far as it happens.
func (m *maker) plan(o *model) []api.Access {
	var l []api.Access
	var ahead []int
	for _, from := range m.Perm(len(o.forms)) {
		keys := o.forms[from].Keys
		a := api.Access{From: from, Key: m.Intn(len(keys)+1) - 1}
		if a.Key >= 0 {
			m.goBy(o, &a, keys[a.Key].Cols, ahead)
		}
		l, ahead = append(l, a), append(ahead, from)
	}
	return l
}

// goBy lets an access go by what binds its key's columns.
func (m *maker) goBy(o *model, a *api.Access, cols, ahead []int) {
	for _, col := range cols {
		others := o.others(a.From, col, "=", ahead)
		if len(others) == 0 || m.one(6) {
			break
		}
		a.Same = append(a.Same, pick(m, others...))
	}
	if len(a.Same) == len(cols) {
		return
	}
	col := cols[len(a.Same)]
	a.LowIn, a.HighIn = m.one(2), m.one(2)
	if l := o.others(a.From, col, map[bool]string{false: ">", true: ">="}[a.LowIn], ahead); len(l) > 0 {
		a.Low = pick(m, l...)
	}
	if l := o.others(a.From, col, map[bool]string{false: "<", true: "<="}[a.HighIn], ahead); len(l) > 0 {
		a.High = pick(m, l...)
	}
}

// bent is accesses with something in them turned into something else.
func (m *maker) bent(o *model, l []api.Access) []api.Access {
	l = withRoom(l)
	some := func() api.Expr {
		if len(o.conds) > 0 && !m.one(4) {
			if c := pick(m, o.conds...); len(c.Parts) > 0 {
				return pick(m, c.Parts...)
			}
		}
		return pick(m, ex("1"), ex("TRUE"), api.Expr{}, ex(":p"), ex("1 + 1"), api.Expr{Op: "zz"})
	}
	if len(l) == 0 || m.one(15) {
		return append(l, api.Access{From: m.Intn(5) - 1, Key: m.Intn(3) - 1})
	}
	i := m.Intn(len(l))
	a := &l[i]
	switch m.Intn(12) {
	case 0:
		return slices.Delete(l, i, i+1)
	case 1:
		a.From += pick(m, -1, 1)
	case 2:
		a.Key += pick(m, -1, 1)
	case 3:
		k := m.Intn(len(l))
		l[i], l[k] = l[k], l[i]
	case 4:
		a.Same = a.Same[:len(a.Same)/2]
	case 5:
		a.Same = append(a.Same, some())
	case 6, 7:
		if len(a.Same) > 0 {
			a.Same[m.Intn(len(a.Same))] = some()
		}
	case 8:
		a.Low = pick(m, some(), api.Expr{}, a.High)
	case 9:
		a.High = pick(m, some(), api.Expr{}, a.Low)
	case 10:
		a.LowIn = !a.LowIn
	case 11:
		a.HighIn = !a.HighIn
	}
	return l
}
