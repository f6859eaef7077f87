package plan_test

import (
	"slices"
	"strings"
	"testing"

	"lockstep/api"
	"lockstep/bag"
	"lockstep/catalog"
	"lockstep/expr"
	"lockstep/plan"
	"lockstep/value"
)

// asked is a condition, and what it may name: an On the columns of the Froms up to its own.
type asked struct {
	e     api.Expr
	scope api.Scope
	needs []int // the Froms that it names
}

// runner goes through rows as a plan says, and looks at all that it leaves out.
type runner struct {
	t      *testing.T
	note   string
	o      *model
	data   [][]api.Row // of each From
	args   api.Row
	conds  []asked
	seen   map[string]int
	held   int64
	wrong  api.Errno
	passed bool
}

func newRunner(t *testing.T, c *catalog.Catalog, x api.Stmt, d api.Data, args api.Row, seen map[string]int) *runner {
	r := &runner{t: t, o: modelOf(c, x, theParams()), args: args, seen: seen, passed: true}
	forms := c.Tables()
	for _, form := range r.o.forms {
		place := slices.IndexFunc(forms, func(f api.Table) bool { return f.Name == form.Name })
		r.data = append(r.data, d[place])
	}
	if x.Kind == api.Select {
		many := 0
		for i, f := range x.From {
			many += len(r.o.forms[i].Cols)
			if i > 0 {
				r.ask(f.On, r.o.scope[:many])
			}
		}
	}
	r.ask(x.Where, r.o.scope)
	return r
}

func (r *runner) ask(e api.Expr, cols []api.Col) {
	if e.Op == "" {
		return
	}
	if e.Op == "and" {
		r.ask(e.Parts[0], cols)
		r.ask(e.Parts[1], cols)
		return
	}
	a := asked{e: e, scope: api.Scope{Cols: cols, Params: theParams()}}
	places, why := expr.Names(e, a.scope)
	if why != api.OK {
		r.t.Fatal(why)
	}
	for _, p := range places {
		a.needs = append(a.needs, r.o.owner[p])
	}
	r.conds = append(r.conds, a)
}

// beside is the rows of Froms beside one another; NULLs, where there is none.
func (r *runner) beside(rows map[int]api.Row) api.Row {
	var l api.Row
	for from, form := range r.o.forms {
		if row, is := rows[from]; is {
			l = append(l, row...)
		} else {
			l = append(l, make(api.Row, len(form.Cols))...)
		}
	}
	return l
}

// says tells what a condition comes to: TRUE, FALSE, NULL, or an error.
func (r *runner) says(a asked, rows map[int]api.Row) (string, api.Errno) {
	v, why := expr.Eval(a.e, a.scope, r.beside(rows)[:len(a.scope.Cols)], r.args)
	if why != api.OK {
		return "err", why
	}
	s, _ := value.Print(v)
	return s, api.OK
}

// isCome tells whether a plan comes to a row: no end that it goes by tells otherwise. (Of an end that errs nothing is told.)
func (r *runner) isCome(a api.Access, row api.Row, ahead map[int]api.Row) bool {
	var cols []int
	if a.Key >= 0 {
		cols = r.o.forms[a.From].Keys[a.Key].Cols
	}
	holds := func(sign string, col int, e api.Expr) bool {
		of, why := expr.Eval(e, api.Scope{Cols: r.o.scope, Params: theParams()}, r.beside(ahead), r.args)
		if why != api.OK {
			r.seen["end errs"]++
			return true
		}
		v, why := value.Test(sign, row[col], of)
		if why != api.OK {
			r.t.Fatal(r.note, why)
		}
		return v == truth(1)
	}
	for i, e := range a.Same {
		if !holds("=", cols[i], e) {
			return false
		}
	}
	if a.Low.Op != "" && !holds(map[bool]string{false: ">", true: ">="}[a.LowIn], cols[len(a.Same)], a.Low) {
		return false
	}
	return a.High.Op == "" || holds(map[bool]string{false: "<", true: "<="}[a.HighIn], cols[len(a.Same)], a.High)
}

// leftOut checks that a row that a plan does not come to has a condition that is FALSE or NULL beside those ahead.
func (r *runner) leftOut(from int, rows map[int]api.Row) {
	isOut := false
	for _, a := range r.conds {
		can := !slices.ContainsFunc(a.needs, func(n int) bool { _, is := rows[n]; return !is })
		if !can {
			continue
		}
		s, _ := r.says(a, rows)
		r.seen["left out beside "+s]++
		isOut = isOut || s == "FALSE" || s == "NULL"
	}
	if !isOut {
		r.passed = false
		r.t.Errorf("%s: the row %v of %d is left out beside %v", r.note, rows[from], from, rows)
	}
}

// run goes through all rows that the accesses come to, behind rows ahead.
func (r *runner) run(l []api.Access, ahead map[int]api.Row) {
	if len(l) == 0 {
		r.end(ahead)
		return
	}
	for _, row := range r.data[l[0].From] {
		if !r.passed {
			return
		}
		rows := map[int]api.Row{l[0].From: row}
		for from, one := range ahead {
			rows[from] = one
		}
		if r.isCome(l[0], row, ahead) {
			r.seen["come"]++
			r.run(l[1:], rows)
		} else {
			r.leftOut(l[0].From, rows)
		}
	}
}

// end notes what rows side by side come to.
func (r *runner) end(rows map[int]api.Row) {
	least := api.OK
	for _, a := range r.conds {
		s, why := r.says(a, rows)
		if s == "FALSE" || s == "NULL" {
			return
		}
		if why != api.OK && (least == api.OK || why < least) {
			least = why
		}
	}
	if least == api.OK {
		r.held++
	} else if r.wrong == api.OK || least < r.wrong {
		r.wrong = least
	}
}

// data is tables that can be, of few rows.
func (m *maker) data() api.Data {
	var d api.Data
	for range m.c.Tables() {
		d = append(d, nil)
	}
	for place, form := range m.c.Tables() {
		for range m.Intn(7) {
			var row api.Row
			for _, c := range form.Cols {
				v, _ := value.Parse(m.value(c.Type))
				if !c.NotNull && m.one(4) {
					v = null()
				}
				row = append(row, v)
			}
			d[place] = append(d[place], row)
			if bag.Check(m.c, d) != api.OK { // a key that is there
				d[place] = d[place][:len(d[place])-1]
			}
		}
	}
	return d
}

func (m *maker) args() api.Row {
	var args api.Row
	for _, p := range theParams() {
		v, _ := value.Parse(m.value(p.Type))
		if p.Name == "n" || m.one(5) {
			v = null()
		}
		args = append(args, v)
	}
	return args
}

// P15.5: a row that a plan of Check OK does not come to has a condition that is FALSE or NULL beside those ahead, whatever the others are. P15.7, as far as plan owes it: so what is answered, or the error, is what bag says.
func TestNoRowIsLost(t *testing.T) {
	t.Parallel()
	m := newMaker(t, 155)
	seen := map[string]int{}
	for i := range 8000 {
		if i%10 == 0 {
			m.tables()
		}
		s := m.stmt()
		if strings.HasPrefix(s, "INSERT") || strings.HasPrefix(s, "UPDATE") {
			continue // an UPDATE's conditions are as a DELETE's
		}
		x := stmt(t, s)
		d, args := m.data(), m.args()
		rows, _, wrong := bag.Run(m.c, d, x, theParams(), args)
		o := modelOf(m.c, x, theParams())
		plans := [][]api.Access{planOf(t, m.c, s).Access, m.plan(o), m.plan(o), m.bent(o, m.plan(o))}
		for _, l := range plans {
			if plan.Check(m.c, api.Plan{Stmt: x, Access: l}, theParams()) != api.OK {
				seen["none"]++
				continue
			}
			r := newRunner(t, m.c, x, d, args, seen)
			r.note, _ = plan.Print(m.c, api.Plan{Stmt: x, Access: l})
			r.note = s + "\n" + r.note
			r.run(l, map[int]api.Row{})
			if r.wrong != wrong || wrong == api.OK && rows[0][0] != num(r.held) {
				t.Errorf("%s: %d %v, not %v %v", r.note, r.held, r.wrong, rows, wrong)
			}
			if t.Failed() {
				return
			}
			seen[wrong.Error()]++
			if wrong == api.OK && r.held > 0 {
				seen["held"]++
			}
		}
	}
	for _, what := range []string{"none", "come", "held", "end errs", "left out beside TRUE", "left out beside FALSE", "left out beside NULL", "left out beside err", api.OK.Error(), api.ErrZero.Error(), api.ErrForm.Error()} {
		if seen[what] < 30 {
			t.Errorf("too few of %s: %d", what, seen[what])
		}
	}
}

// P15.5: example by example, with conditions of all four kinds beside each other.
func TestRowsLeftOut(t *testing.T) {
	c := made(t, "CREATE TABLE t (a BIGINT, b BIGINT, c BIGINT, PRIMARY KEY (a), INDEX i (b, c));")
	d := api.Data{{
		{num(1), num(1), num(1)}, {num(2), num(1), null()}, {num(3), null(), num(1)}, {num(4), num(2), num(5)}, {num(5), null(), null()}, {num(6), num(1), num(0)}, {num(0), num(7), num(7)},
	}}
	args := api.Row{num(1), dec(5000), text("x"), truth(0), null()}
	tests := []string{"TRUE", "FALSE", "NULL", "1 / c = 1", "a > 3", "c > 0", "b = 1", "b = :p", "a = :n", "b = 1 / a", "c < 10 / a", "a <= 5", "0 < a", "c >= b", "b = :n + 1"}
	seen := map[string]int{}
	for _, one := range tests {
		for _, two := range tests {
			for _, three := range tests {
				s := "DELETE FROM t WHERE " + one + " AND " + two + " AND " + three
				x := stmt(t, s)
				rows, _, wrong := bag.Run(c, d, x, theParams(), args)
				r := newRunner(t, c, x, d, args, seen)
				r.note = s
				r.run(planOf(t, c, s).Access, map[int]api.Row{})
				if r.wrong != wrong || wrong == api.OK && rows[0][0] != num(r.held) {
					t.Fatalf("%s: %d %v, not %v %v", s, r.held, r.wrong, rows, wrong)
				}
			}
		}
	}
	for _, what := range []string{"come", "left out beside TRUE", "left out beside FALSE", "left out beside NULL", "left out beside err"} {
		if seen[what] < 100 {
			t.Errorf("too few of %s: %d", what, seen[what])
		}
	}
}

// P15.6: Make's plan is one; also of what is as great as it may be.
func TestMakeIsOne(t *testing.T) {
	var keys, cols, where []string
	for i := range api.MaxCols {
		name := string(rune('a' + i))
		cols = append(cols, name+" BIGINT")
		where = append(where, name+" = :p AND "+name+" > :n")
		if i < 15 {
			keys = append(keys, "UNIQUE "+name+"k ("+name+", p, "+string(rune('b'+(i+1)%14))+")")
		}
	}
	keys[0], keys[1] = "INDEX ak (a, b, c, d)", "INDEX bk (d, c, b, a)"
	c := made(t, "CREATE TABLE t ("+strings.Join(cols, ", ")+", PRIMARY KEY (p), "+strings.Join(keys, ", ")+");")
	plans(t, c, "SELECT a FROM t WHERE "+strings.Join(where, " AND "), "t ak a = :p b = :p c = :p d = :p\n")
	plans(t, c, "DELETE FROM t WHERE d = 1 AND "+strings.Repeat("c > 1 AND ", 40)+"c = 2", "t bk d = 1 c = 2\n")
	plans(t, c, "SELECT x.a FROM t AS x JOIN t AS y ON y.p = x.a JOIN t AS z ON z.p = y.a JOIN t AS w ON w.p = z.a WHERE x.p = 1", "x primary p = 1\ny primary p = x.a\nz primary p = y.a\nw primary p = z.a\n")
	plans(t, c, "SELECT a FROM t WHERE p = "+deep(60), "t primary p = "+deep(60)+"\n")
	plans(t, c, "SELECT a FROM t WHERE p = "+strings.Repeat("- ", 16)+"1", "t primary p = "+strings.Repeat("- ", 16)+"1\n")
}
