package bag_test

import (
	"fmt"
	"math/rand"
	"slices"
	"strings"
	"testing"

	"lockstep/api"
	"lockstep/bag"
	"lockstep/catalog"
	"lockstep/parse"
)

// mixed is tables of all types, with keys of one column and of several, with room for few rows.
const mixed = `CREATE TABLE t (a BIGINT, b BIGINT, s VARCHAR(3), PRIMARY KEY (a), UNIQUE k (b, s), INDEX i (s)) LIMIT 6;
CREATE TABLE u (a BIGINT, d DECIMAL, f BOOLEAN NOT NULL, PRIMARY KEY (a, d), UNIQUE k (f, d, a)) PARTITION BY a LIMIT 5;
CREATE TABLE w (s VARCHAR(2), n BIGINT, d DECIMAL, f BOOLEAN, PRIMARY KEY (s), UNIQUE k (n));`

// maker makes statements and tables at random.
type maker struct {
	*rand.Rand
	c      *catalog.Catalog
	params []api.Col
}

func newMaker(t *testing.T, seed int64) *maker {
	return &maker{rand.New(rand.NewSource(seed)), made(t, mixed), theParams()}
}

// one tells of every n one.
func (m *maker) one(n int) bool { return m.Intn(n) == 0 }

func pick[T any](m *maker, l ...T) T { return l[m.Intn(len(l))] }

// value is one of a type; of few, so that many are the same.
func (m *maker) value(typ int) api.Value {
	switch typ {
	case api.BigInt:
		return num(pick[int64](m, 0, 1, 2, 2, 3, 5, -1, 1<<63-1, -1<<63, 1<<62))
	case api.Dec:
		return dec(pick[int64](m, 0, 1, 5000, 10000, 15000, -5000, 1<<63-1, -1<<63))
	case api.Text:
		return text(pick(m, "", "a", "b", "ab", "1", "é", "7x"))
	}
	return truth(int64(m.Intn(2)))
}

// data is tables that can be.
func (m *maker) data() api.Data {
	var d api.Data
	for place, form := range m.c.Tables() {
		d = append(d, nil)
		for range m.Intn(14) {
			var r api.Row
			for _, c := range form.Cols {
				v := m.value(c.Type)
				if !c.NotNull && m.one(4) {
					v = null()
				}
				if m.one(20) { // what its type does not name
					if v.Type == api.Text {
						v.Int = 7
					} else {
						v.Text = "x"
					}
				}
				r = append(r, v)
			}
			d[place] = append(d[place], r)
			found := map[api.Errno]int{}
			if plainRows(form, d[place], found); len(found) > 0 {
				d[place] = d[place][:len(d[place])-1]
			}
		}
	}
	return d
}

// args is values of the parameters.
func (m *maker) args() api.Row {
	var args api.Row
	for _, p := range m.params {
		v := m.value(p.Type)
		if m.one(5) {
			v = null()
		}
		args = append(args, v)
	}
	return args
}

// leaf is a column or parameter of a type, or a value.
func (m *maker) leaf(typ int, cols []api.Col) string {
	var l []string
	for _, c := range cols {
		if c.Type == typ && c.Name != "" {
			name := c.Name
			if c.Of != "" {
				name = c.Of + "." + name
			}
			l = append(l, name, name, name)
		}
	}
	for _, p := range m.params {
		if p.Type == typ {
			l = append(l, ":"+p.Name)
		}
	}
	if typ == api.Null {
		return "NULL"
	}
	v := m.value(typ)
	if v.Int < 0 {
		v.Int = 4
	}
	if m.one(12) {
		return "NULL"
	}
	return pick(m, append(l, told([]api.Row{{v}}))...)
}

// expr is an expression of a type, in brackets where it needs them; some of them err.
func (m *maker) expr(typ, deep int, cols []api.Col) string {
	if deep == 0 || m.one(3) {
		return m.leaf(typ, cols)
	}
	sub := func(typ int) string { return m.expr(typ, deep-1, cols) }
	switch typ {
	case api.BigInt:
		return pick(m, func() string { return "(" + sub(1) + pick(m, " + ", " * ", " - ", " / ") + sub(1) + ")" }, func() string { return "LENGTH(" + sub(3) + ")" }, func() string { return "(-" + sub(1) + ")" }, func() string { return "CAST(" + sub(3) + " AS BIGINT)" }, func() string { return "COALESCE(" + sub(1) + ", " + sub(1) + ")" })()
	case api.Dec:
		return pick(m, func() string { return "(" + sub(1) + pick(m, " + ", " / ") + sub(2) + ")" }, func() string { return "CAST(" + sub(1) + " AS DECIMAL)" }, func() string { return "COALESCE(" + sub(2) + ", " + sub(1) + ")" })()
	case api.Text:
		return pick(m, func() string { return "(" + sub(3) + " || " + sub(3) + ")" }, func() string { return "CASE WHEN " + sub(4) + " THEN " + sub(3) + " ELSE " + sub(3) + " END" }, func() string { return "SUBSTR(" + sub(3) + ", 1, " + sub(1) + ")" })()
	case api.Bool:
		same := 1 + m.Intn(4)
		return pick(m, func() string { return "(" + sub(same) + pick(m, " = ", " < ", " <> ", " >= ") + sub(same) + ")" }, func() string { return "(" + sub(4) + pick(m, " AND ", " OR ") + sub(4) + ")" }, func() string { return "(NOT " + sub(4) + ")" }, func() string { return "(" + sub(same) + " IS NULL)" }, func() string { return "(" + sub(same) + " IN (" + sub(same) + ", " + sub(same) + "))" })()
	}
	return "COALESCE(NULL, NULL)"
}

// condition is one of several Parts.
func (m *maker) condition(cols []api.Col) string {
	var l []string
	for range 1 + m.Intn(3) {
		switch m.Intn(4) {
		case 0: // mostly TRUE, or an error
			l = append(l, pick(m, "COALESCE(8 / "+m.leaf(api.BigInt, cols)+" <> 9, TRUE)", "COALESCE("+m.leaf(api.BigInt, cols)+" + 2 <> 9, TRUE)", "COALESCE(CAST("+m.leaf(api.Text, cols)+" || '1' AS BIGINT) <> 9, TRUE)"))
		case 1:
			l = append(l, "TRUE")
		case 2:
			l = append(l, "COALESCE("+m.leaf(api.BigInt, cols)+" <> "+m.leaf(api.BigInt, cols)+", TRUE)")
		default:
			l = append(l, m.expr(api.Bool, m.Intn(3), cols))
		}
	}
	return strings.Join(l, " AND ")
}

// where is a WHERE or none.
func (m *maker) where(cols []api.Col) string {
	if m.one(3) {
		return ""
	}
	return " WHERE " + m.condition(cols)
}

func scope(form api.Table, as string) []api.Col {
	var l []api.Col
	for _, c := range form.Cols {
		l = append(l, api.Col{Of: as, Name: c.Name, Type: c.Type})
	}
	return l
}

func (m *maker) stmt() string {
	form := pick(m, m.c.Tables()...)
	switch m.Intn(6) {
	case 0:
		return m.insert(form)
	case 1:
		return m.update(form)
	case 2:
		return "DELETE FROM " + form.Name + m.where(scope(form, form.Name))
	}
	return m.selects()
}

// fitting is an expression for a column.
func (m *maker) fitting(typ int, cols []api.Col) string {
	if typ == api.Dec && m.one(3) {
		typ = api.BigInt
	}
	return m.expr(typ, m.Intn(3), cols)
}

func (m *maker) insert(form api.Table) string {
	var names, values []string
	for _, i := range m.Perm(len(form.Cols)) {
		if c := form.Cols[i]; c.NotNull && !m.one(12) || m.one(2) || len(names) == 0 {
			names, values = append(names, c.Name), append(values, m.fitting(c.Type, nil))
		}
	}
	return "INSERT INTO " + form.Name + " (" + strings.Join(names, ", ") + ") VALUES (" + strings.Join(values, ", ") + ")"
}

func (m *maker) update(form api.Table) string {
	cols := scope(form, form.Name)
	var sets []string
	for i, c := range form.Cols {
		if i != form.Part && m.one(2) {
			sets = append(sets, c.Name+" = "+m.fitting(c.Type, cols))
		}
	}
	if len(sets) == 0 {
		sets = []string{"d = 2"}
		if form.Name == "t" {
			sets = []string{"b = 2"}
		}
	}
	return "UPDATE " + form.Name + " SET " + strings.Join(sets, ", ") + m.where(cols)
}

func (m *maker) selects() string {
	var cols []api.Col
	from := ""
	for i := range pick(m, 1, 1, 1, 2, 2, 2, 3, 3, 4) {
		form := pick(m, m.c.Tables()...)
		as := fmt.Sprint("x", i)
		cols = append(cols, scope(form, as)...)
		if i > 0 {
			from += " JOIN "
		}
		from += form.Name + " AS " + as
		if i > 0 {
			from += " ON " + m.condition(cols)
		}
	}
	list, group, answered := m.items(cols)
	s := "SELECT " + pick(m, "", "DISTINCT ") + strings.Join(list, ", ") + " FROM " + from + m.where(cols)
	if len(group) > 0 {
		s += " GROUP BY " + strings.Join(group, ", ")
	}
	if (len(group) > 0 || strings.Contains(strings.Join(list, ","), "COUNT(*)")) && m.one(2) {
		s += " HAVING " + m.condition(answered)
	}
	var order []string
	for _, c := range answered {
		if m.one(3) {
			order = append(order, c.Name+pick(m, "", " DESC"))
		}
	}
	if m.Shuffle(len(order), func(i, k int) { order[i], order[k] = order[k], order[i] }); len(order) > 0 {
		s += " ORDER BY " + strings.Join(order, ", ")
	}
	return s + pick(m, "", "", " LIMIT 2", " LIMIT :p", " LIMIT 0")
}

// items is those of a SELECT, by what they are grouped, and the columns that they answer.
func (m *maker) items(cols []api.Col) ([]string, []string, []api.Col) {
	var list, group []string
	var answered []api.Col
	isGrouped := m.one(2)
	for i := range 1 + m.Intn(4) {
		typ := 1 + m.Intn(4)
		e := m.expr(typ, m.Intn(3), cols)
		if isGrouped && m.one(2) {
			e, typ = m.agg(typ, e, cols)
		} else if isGrouped && (m.one(5) || strings.Contains(e, "x") || strings.Contains(e, "NULL")) {
			group = append(group, e)
		} else if isGrouped {
			e, typ = "COUNT(*)", api.BigInt
		}
		name := fmt.Sprint("n", i)
		list, answered = append(list, e+" AS "+name), append(answered, col(name, typ))
	}
	if isGrouped && m.one(4) {
		group = append(group, m.expr(1+m.Intn(4), 2, cols))
	}
	return list, group, answered
}

func (m *maker) agg(typ int, e string, cols []api.Col) (string, int) {
	word := pick(m, "COUNT", "MIN", "MAX", "SUM", "AVG", "SUM")
	if word == "SUM" || word == "AVG" {
		typ = 1 + m.Intn(2)
		e = m.expr(typ, m.Intn(3), cols)
	}
	e = word + "(" + pick(m, "", "DISTINCT ") + e + ")"
	switch word {
	case "COUNT":
		typ = api.BigInt
	case "AVG":
		typ = api.Dec
	}
	return e, typ
}

// P13.2: statements at random over tables at random answer what the model says; each error, and each kind of statement with and without one, comes often enough.
func TestModel(t *testing.T) {
	t.Parallel()
	m := newMaker(t, 134)
	fine, wrong, whys := map[int]int{}, map[int]int{}, map[api.Errno]int{}
	for range 20000 {
		s := m.stmt()
		x, at, why := parse.Stmt(s)
		if why != api.OK {
			t.Fatal(s, at, why)
		}
		got := agrees(t, m.c, m.data(), x, m.params, m.args())
		if t.Failed() {
			return
		}
		whys[got.why]++
		if got.why == api.OK {
			fine[x.Kind]++
		} else {
			wrong[x.Kind]++
		}
	}
	for kind := api.Select; kind <= api.Delete; kind++ {
		if fine[kind] < 500 || wrong[kind] < 200 {
			t.Errorf("too few of the kind %d: %d, %d", kind, fine[kind], wrong[kind])
		}
	}
	for _, why := range []api.Errno{api.ErrArg, api.ErrLong, api.ErrForm, api.ErrOver, api.ErrZero, api.ErrTwice, api.ErrNull, api.ErrFull} {
		if whys[why] < 50 {
			t.Errorf("too few of %v: %d", why, whys[why])
		}
	}
}

// P13.1: tables at random, with things that are wrong in them, are told as the model tells them, by Check and by Run.
func TestModelOfCheck(t *testing.T) {
	t.Parallel()
	m := newMaker(t, 135)
	whys := map[api.Errno]int{}
	for range 20000 {
		d := m.data()
		for range m.Intn(4) {
			place := m.Intn(len(d))
			if len(d[place]) == 0 {
				continue
			}
			i := m.Intn(len(d[place]))
			r := slices.Clone(d[place][i])
			k := m.Intn(len(r))
			switch m.Intn(8) {
			case 7:
				for n := range int64(m.Intn(7)) {
					more := slices.Clone(r)
					for i, v := range more {
						if v.Type == api.BigInt {
							more[i] = num(100 + n)
						}
					}
					d[place] = append(d[place], more)
				}
			case 0:
				r[k] = null()
			case 1:
				d[place] = append(d[place], slices.Clone(r))
			case 2:
				r[k] = m.value(1 + m.Intn(4))
			case 3:
				if r[k].Type == api.Text {
					r[k] = text(strings.Repeat("x", 2+m.Intn(3)))
				}
			case 4:
				if m.one(3) {
					r = r[:len(r)-1]
				}
			case 5:
				if m.one(3) {
					r = append(r, null())
				}
			case 6:
				r[k] = m.value(max(r[k].Type, 1))
			}
			d[place][i] = r
		}
		want := plainCheck(m.c, d)
		whys[want]++
		if why := bag.Check(m.c, d); why != want {
			t.Fatalf("Check of %v: %v, not %v", d, why, want)
		}
		if want != api.OK {
			agrees(t, m.c, d, stmt(t, "SELECT z FROM t"), nil, nil)
		}
	}
	for _, why := range []api.Errno{api.OK, api.ErrArg, api.ErrNull, api.ErrLong, api.ErrTwice, api.ErrFull} {
		if whys[why] < 100 {
			t.Errorf("too few of %v: %d", why, whys[why])
		}
	}
}

// bent is a statement with something in it turned into something else: of some that can't be, or name what is not there.
func (m *maker) bent(x api.Stmt) api.Stmt {
	x = withRoom(x)
	other := stmtOf(m.stmt())
	bend := func(e *api.Expr) {
		*e = pick(m, api.Expr{}, api.Expr{Op: "zz"}, api.Expr{Op: "column", Name: "a"}, api.Expr{Op: "param", Name: "zz"}, api.Expr{Op: "and"}, api.Expr{Op: "value", Value: api.Value{Type: 9}}, api.Expr{Op: "value", Value: num(-1)}, other.Where)
	}
	switch m.Intn(12) {
	case 0:
		x.Kind = m.Intn(7) - 1
	case 1:
		x.Table = other.Table
	case 2:
		x.From = other.From
	case 3:
		x.Items = other.Items
	case 4:
		x.Group = other.Group
	case 5:
		x.Having = other.Having
	case 6:
		x.Sets, x.Cols = other.Sets, other.Cols
	case 7:
		bend(&x.Where)
	case 8:
		bend(&x.Limit)
	case 9:
		for i := range x.Items {
			x.Items[i].Agg = pick(m, "", "sum", "zz", "count")
			x.Items[i].Star = m.one(2)
		}
	case 10:
		for i := range x.Values {
			bend(&x.Values[i])
		}
		for i := range x.Order {
			x.Order[i].Name = pick(m, "", "n0", "zz")
		}
	case 11:
		for i := range x.From {
			bend(&x.From[i].On)
		}
	}
	return x
}

func stmtOf(s string) api.Stmt {
	x, _, why := parse.Stmt(s)
	if why != api.OK {
		panic(s)
	}
	return x
}

// P13.2: statements that are bent answer what the model says: mostly the catalog's error, and never a panic.
func TestModelOfBent(t *testing.T) {
	t.Parallel()
	m := newMaker(t, 144)
	whys := map[api.Errno]int{}
	for range 12000 {
		x := m.bent(stmtOf(m.stmt()))
		got := agrees(t, m.c, m.data(), x, m.params, m.args())
		if t.Failed() {
			return
		}
		whys[got.why]++
	}
	for _, why := range []api.Errno{api.OK, api.ErrArg, api.ErrName, api.ErrType, api.ErrParam, api.ErrGroup} {
		if whys[why] < 10 {
			t.Errorf("too few of %v: %d", why, whys[why])
		}
	}
}
