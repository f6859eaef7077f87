package proc_test

import (
	"fmt"
	"math/rand"
	"slices"
	"strings"
	"testing"

	"lockstep/api"
	"lockstep/bag"
	"lockstep/catalog"
	"lockstep/value"
)

// mixed is tables of all types, with keys of one column and of several, some with room for few rows.
const mixed = `CREATE TABLE t (a BIGINT, b BIGINT, s VARCHAR(2), PRIMARY KEY (a), UNIQUE k (b)) LIMIT 3;
CREATE TABLE v (a BIGINT, d DECIMAL, f BOOLEAN, PRIMARY KEY (a, d), INDEX i (f));
CREATE TABLE w (s VARCHAR(3), n BIGINT NOT NULL, d DECIMAL, PRIMARY KEY (s)) LIMIT 4;
`

// maker makes procedures, tables and arguments at random.
type maker struct {
	*rand.Rand
	t     *testing.T
	forms []api.Table
	asked []api.Col // what a step may ask: the parameters, and the Lets ahead
}

func newMaker(t *testing.T, seed int64) *maker {
	return &maker{Rand: rand.New(rand.NewSource(seed)), t: t, forms: made(t, mixed).Tables()}
}

// one tells of every n one.
func (m *maker) one(n int) bool { return m.Intn(n) == 0 }

func pick[T any](m *maker, l ...T) T { return l[m.Intn(len(l))] }

// literal is one of a type; of few, so that many are the same.
func (m *maker) literal(typ int) string {
	switch typ {
	case api.BigInt:
		return pick(m, "0", "1", "2", "2", "3", "4")
	case api.Dec:
		return pick(m, "0.0", "1.0", "1.5", "2.0")
	case api.Text:
		return pick(m, "''", "'a'", "'b'", "'c'", "'ab'")
	}
	return pick(m, "TRUE", "FALSE")
}

// leaf is a column or a parameter of a type, or a literal.
func (m *maker) leaf(typ int, cols []api.Column) string {
	l := []string{m.literal(typ), m.literal(typ)}
	for _, c := range cols {
		if c.Type == typ {
			l = append(l, c.Name, c.Name)
		}
	}
	for _, p := range m.asked {
		if p.Type == typ {
			l = append(l, ":"+p.Name)
		}
	}
	// What was let last is asked most.
	if last := m.asked[len(m.asked)-1]; last.Type == typ {
		l = append(l, ":"+last.Name, ":"+last.Name, ":"+last.Name)
	}
	return pick(m, l...)
}

// expr is what can be put into a column of a type.
func (m *maker) expr(typ int, cols []api.Column) string {
	one, two := m.leaf(typ, cols), m.leaf(typ, cols)
	switch m.Intn(12) {
	case 0, 1:
		switch typ {
		case api.BigInt, api.Dec:
			return one + pick(m, " + ", " - ", " * ") + two
		case api.Text:
			return one + " || " + two
		}
		return m.cond(cols)
	case 2:
		if typ <= api.Dec {
			return one + " / " + two
		}
	case 3:
		return "COALESCE(" + one + ", " + two + ")"
	}
	return one
}

// cond is a condition.
func (m *maker) cond(cols []api.Column) string {
	typ := pick(m, api.BigInt, api.BigInt, api.BigInt, api.Dec, api.Text, api.Bool)
	one, two := m.expr(typ, cols), m.leaf(typ, cols)
	switch m.Intn(8) {
	case 0:
		return m.leaf(typ, cols) + " IS NULL"
	case 1:
		return "(" + one + ") <> " + two
	case 2:
		return "(" + one + ") = " + two + pick(m, " OR ", " AND ") + m.leaf(api.Bool, cols)
	}
	return "(" + one + ")" + pick(m, " = ", " = ", " < ", " >= ") + two
}

// where is a condition of a statement, which few rows meet, or none.
func (m *maker) where(form api.Table) string {
	switch m.Intn(5) {
	case 0:
		return ""
	case 1, 2:
		return " WHERE " + m.cond(form.Cols)
	}
	c := form.Cols[form.Keys[0].Cols[0]]
	return " WHERE " + c.Name + pick(m, " = ", " = ", " <= ") + m.leaf(c.Type, nil)
}

// stmt is a statement of a Run step.
func (m *maker) stmt() string {
	form := pick(m, m.forms...)
	switch m.Intn(8) {
	case 0:
		return "DELETE FROM " + form.Name + m.where(form)
	case 1, 2:
		c := pick(m, form.Cols...)
		return "UPDATE " + form.Name + " SET " + c.Name + " = " + m.expr(c.Type, form.Cols) + m.where(form)
	case 3, 4, 5:
		return m.insert(form)
	}
	return m.selects(form)
}

func (m *maker) insert(form api.Table) string {
	var names, values []string
	for _, i := range m.Perm(len(form.Cols)) {
		c := form.Cols[i]
		if m.one(12) && len(names) > 0 {
			continue
		}
		names, values = append(names, c.Name), append(values, m.expr(c.Type, nil))
	}
	return "INSERT INTO " + form.Name + " (" + strings.Join(names, ", ") + ") VALUES (" + strings.Join(values, ", ") + ")"
}

func (m *maker) selects(form api.Table) string {
	c := pick(m, form.Cols...)
	from := " FROM " + form.Name + m.where(form)
	switch m.Intn(4) {
	case 0:
		return "SELECT COUNT(*), MAX(" + c.Name + "), COUNT(DISTINCT " + c.Name + ") AS m" + from
	case 1:
		return "SELECT " + c.Name + ", COUNT(*) AS m" + from + " GROUP BY " + c.Name + " ORDER BY m DESC LIMIT 2"
	}
	return "SELECT " + form.Cols[0].Name + ", " + m.expr(c.Type, form.Cols) + " AS m, " + m.leaf(api.BigInt, nil) + from + pick(m, "", " ORDER BY m DESC")
}

// let is a SELECT whose answer is mostly of one row, and the type of its one column.
func (m *maker) let() (string, int) {
	form := pick(m, m.forms...)
	c := pick(m, form.Cols...)
	from := " FROM " + form.Name + m.where(form)
	switch m.Intn(7) {
	case 0, 1:
		return "SELECT COUNT(*)" + from, api.BigInt
	case 2:
		return "SELECT MAX(" + m.expr(c.Type, form.Cols) + ")" + from, c.Type
	case 3:
		return "SELECT " + c.Name + from, c.Type
	}
	return "SELECT " + c.Name + " AS m" + from + " ORDER BY m LIMIT 1", c.Type
}

// step is the step of a number; statements alone, if nothing else is wanted.
func (m *maker) step(no int, isPlain bool) string {
	if !isPlain && m.one(4) {
		s, typ := m.let()
		name := fmt.Sprint("x", no)
		m.asked = append(m.asked, col(name, typ))
		return "LET " + name + " = " + s
	}
	if !isPlain && m.one(6) {
		return fmt.Sprint("ABORT 'text", no, "' IF ", m.cond(nil))
	}
	return m.stmt()
}

// proc is the text of a procedure of such parameters as theParams.
func (m *maker) proc(name string, isPlain bool) string {
	m.asked = theParams()
	var steps []string
	for i := range 1 + m.Intn(6) {
		steps = append(steps, m.step(i, isPlain))
	}
	return procText(name, "p BIGINT, q DECIMAL, r VARCHAR(2), f BOOLEAN, n BIGINT", steps...)
}

// procs is a catalog of so many procedures, f0, f1 and so on.
func (m *maker) procs(many int, isPlain bool) *catalog.Catalog {
	s := mixed
	for i := range many {
		s += m.proc(fmt.Sprint("f", i), isPlain)
	}
	return made(m.t, s)
}

// value is one of a type, or NULL.
func (m *maker) value(typ int, isNull bool) api.Value {
	if isNull {
		return null()
	}
	v, why := value.Parse(m.literal(typ))
	if why != api.OK {
		m.t.Fatal(why)
	}
	return v
}

// data is tables that can be, of at most so many rows each.
func (m *maker) data(c *catalog.Catalog, most int) api.Data {
	d := make(api.Data, len(m.forms))
	for place, form := range m.forms {
		for range m.Intn(most + 1) {
			var row api.Row
			for _, c := range form.Cols {
				row = append(row, m.value(c.Type, !c.NotNull && m.one(4)))
			}
			d[place] = append(d[place], row)
			if bag.Check(c, d) != api.OK {
				d[place] = d[place][:len(d[place])-1]
			}
		}
	}
	return d
}

// args is arguments, of which some don't fit.
func (m *maker) args() api.Row {
	var args api.Row
	for _, p := range theParams() {
		v := m.value(p.Type, m.one(8))
		switch m.Intn(150) {
		case 0:
			v = text("abc")
		case 1:
			v = dec(1 << 60)
		case 2:
			return args
		case 3:
			v.Int, v.Text = v.Int+1, v.Text+"z"
		}
		args = append(args, v)
	}
	return args
}

// shuffled is the same tables, their rows in another order.
func (m *maker) shuffled(d api.Data) api.Data {
	var out api.Data
	for _, l := range d {
		l = slices.Clone(l)
		m.Shuffle(len(l), func(i, k int) { l[i], l[k] = l[k], l[i] })
		out = append(out, l)
	}
	return out
}
