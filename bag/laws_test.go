package bag_test

import (
	"fmt"
	"slices"
	"strings"
	"testing"

	"lockstep/api"
	"lockstep/bag"
	"lockstep/expr"
	"lockstep/parse"
	"lockstep/value"
)

// enough checks that something came up often.
func enough(t *testing.T, what string, n, least int) {
	t.Helper()
	if n < least {
		t.Errorf("%s: only %d", what, n)
	}
}

// shuffled is the same tables in another order.
func (m *maker) shuffled(d api.Data) api.Data {
	d = withRoom(d)
	for _, l := range d {
		m.Shuffle(len(l), func(i, k int) { l[i], l[k] = l[k], l[i] })
	}
	return d
}

// P13.3: neither what is answered nor the tables behind it hang on the order of the rows.
func TestBags(t *testing.T) {
	t.Parallel()
	m := newMaker(t, 136)
	fine := 0
	for range 4000 {
		d, args, x := m.data(), m.args(), stmt(t, m.stmt())
		got, other := run(t, m.c, d, x, m.params, args), run(t, m.c, m.shuffled(d), x, m.params, args)
		if got.why != other.why || told(got.rows) != told(other.rows) || !bag.Same(got.data, other.data) {
			s, _ := parse.PrintStmt(x)
			t.Fatalf("%s over %v: %v, not %v", s, d, other, got)
		}
		if got.why == api.OK {
			fine++
		}
	}
	enough(t, "OK", fine, 2000)
	// All orders of a few rows.
	c := made(t, plain)
	each([][]int{{0, 1, 2, 3}, {0, 1, 2, 3}, {0, 1, 2, 3}, {0, 1, 2, 3}}, func(order []int) {
		l, d := plainData(), api.Data{nil, plainData()[1]}
		for _, i := range order {
			d[0] = append(d[0], l[0][i])
		}
		if bag.Check(c, d) != api.OK {
			return
		}
		says(t, c, d, "SELECT b, COUNT(*), MIN(s), SUM(d) FROM t GROUP BY b", "NULL, 1, 'x', 1.5; 5, 2, 'y', 2.5; 7, 1, 'x', 1.5")
		says(t, c, d, "SELECT d, s FROM t ORDER BY d DESC", "2.5, NULL; 1.5, 'x'; 1.5, 'x'; NULL, 'y'")
		says(t, c, d, "SELECT s, t.a FROM t JOIN u ON t.a < u.a ORDER BY s LIMIT 3", "NULL, 3; 'x', 1; 'x', 1")
		leaves(t, c, d, "UPDATE t SET a = 5 - a", 4, 0, "4, NULL, 1.5, 'x', TRUE; 3, 5, NULL, 'y', FALSE; 2, 5, 2.5, NULL, NULL; 1, 7, 1.5, 'x', FALSE")
	})
}

// P13.4: from statement to statement, tables can always be, and are what the model says.
func TestTheyStaySuch(t *testing.T) {
	t.Parallel()
	m := newMaker(t, 137)
	changes := 0
	for range 60 {
		d := m.data()
		for range 60 {
			x := stmt(t, m.stmt())
			if x.Kind == api.Delete && !m.one(4) {
				continue
			}
			got := agrees(t, m.c, d, x, m.params, m.args())
			if t.Failed() {
				return
			}
			if got.why != api.OK || x.Kind == api.Select {
				continue
			}
			if why := plainCheck(m.c, got.data); why != api.OK {
				t.Fatal(got.data, why)
			}
			changes++
			d = got.data
		}
	}
	enough(t, "changes", changes, 500)
}

// isPart tells whether all rows of a are rows of b, too, at least as often.
func isPart(a, b []api.Row) bool {
	b = slices.Clone(b)
	for _, r := range a {
		i := slices.IndexFunc(b, func(o api.Row) bool { return value.Rows(r, o) == 0 })
		if i < 0 {
			return false
		}
		b = slices.Delete(b, i, i+1)
	}
	return true
}

// and is a condition and one more.
func and(e, more api.Expr) api.Expr {
	if e.Op == "" {
		return more
	}
	return api.Expr{Op: "and", Parts: []api.Expr{e, more}}
}

func theTruth() api.Expr { return api.Expr{Op: "value", Value: truth(1)} }

// oneMore is a SELECT with one condition more.
func oneMore(x api.Stmt, more api.Expr) api.Stmt {
	x.Where = and(x.Where, more)
	return x
}

func isGrouped(x api.Stmt) bool {
	return len(x.Group) > 0 || slices.ContainsFunc(x.Items, func(it api.Item) bool { return it.Agg != "" })
}

// P13.5: a SELECT (not grouped, without LIMIT) with one condition more answers a part, if neither is refused.
func TestOneConditionMore(t *testing.T) {
	t.Parallel()
	m := newMaker(t, 138)
	parts, less := 0, 0
	for range 4000 {
		d, args, x := m.data(), m.args(), stmt(t, m.selects())
		if isGrouped(x) {
			continue
		}
		x.Limit = api.Expr{}
		cols, why := m.c.Scope(x)
		more, _, also := parse.Expr(m.expr(api.Bool, 2, cols))
		if why != api.OK || also != api.OK {
			t.Fatal(why, also)
		}
		got, fewer := run(t, m.c, d, x, m.params, args), run(t, m.c, d, oneMore(x, more), m.params, args)
		if got.why != api.OK || fewer.why != api.OK {
			continue
		}
		parts++
		if len(fewer.rows) < len(got.rows) && len(fewer.rows) > 0 {
			less++
		}
		if !isPart(fewer.rows, got.rows) {
			s, _ := parse.PrintStmt(oneMore(x, more))
			t.Fatalf("%s over %v: %s, no part of %s", s, d, told(fewer.rows), told(got.rows))
		}
	}
	enough(t, "parts", parts, 600)
	enough(t, "less", less, 50)
}

// P13.5: WHERE TRUE changes nothing, with whatever error; nor does it matter whether it stands ahead or behind, or in an ON.
func TestWhereTrue(t *testing.T) {
	t.Parallel()
	m := newMaker(t, 139)
	for range 4000 {
		d, args, x := m.data(), m.args(), stmt(t, m.stmt())
		if x.Kind == api.Insert {
			continue
		}
		want := run(t, m.c, d, x, m.params, args)
		other := x
		if x.Where.Op != "" && m.one(2) {
			other.Where = and(theTruth(), x.Where)
		} else {
			other = oneMore(x, theTruth())
		}
		if x.Kind == api.Select && len(x.From) > 1 && m.one(2) {
			other.From = slices.Clone(other.From)
			other.From[1].On = and(theTruth(), other.From[1].On)
		}
		if got := run(t, m.c, d, other, m.params, args); !sameOutcome(got, want) {
			s, _ := parse.PrintStmt(other)
			t.Fatalf("%s over %v: %v, not %v", s, d, got, want)
		}
	}
}

func sameOutcome(a, b outcome) bool {
	return a.why == b.why && told(a.rows) == told(b.rows) && bag.Same(a.data, b.data)
}

// P13.5: what stands in ONs may stand in WHERE, and what stands in WHERE in the last ON, with whatever error.
func TestOnAndWhere(t *testing.T) {
	t.Parallel()
	m := newMaker(t, 140)
	fine, wrong := 0, 0
	for range 4000 {
		d, args, x := m.data(), m.args(), stmt(t, m.selects())
		if len(x.From) < 2 {
			continue
		}
		want := run(t, m.c, d, x, m.params, args)
		behind := x
		behind.From = slices.Clone(x.From)
		var all []api.Expr
		for i := 1; i < len(x.From); i++ {
			all = append(all, x.From[i].On)
			behind.From[i].On = theTruth()
		}
		if x.Where.Op != "" {
			all = append(all, x.Where)
		}
		m.Shuffle(len(all), func(i, k int) { all[i], all[k] = all[k], all[i] })
		behind.Where = expr.All(all)
		ahead := behind
		ahead.From = slices.Clone(behind.From)
		ahead.From[len(ahead.From)-1].On = expr.All(all)
		ahead.Where = api.Expr{}
		for _, y := range []api.Stmt{behind, ahead} {
			if got := run(t, m.c, d, y, m.params, args); !sameOutcome(got, want) {
				s, _ := parse.PrintStmt(y)
				t.Fatalf("%s over %v: %v, not %v", s, d, got, want)
			}
		}
		if want.why == api.OK {
			fine++
		} else {
			wrong++
		}
	}
	enough(t, "OK", fine, 700)
	enough(t, "refused", wrong, 700)
}

// P13.5: COUNT(*) is how many rows there are without it.
func TestCountOfRows(t *testing.T) {
	t.Parallel()
	m := newMaker(t, 141)
	counts := map[int]int{}
	for range 5000 {
		d, args, x := m.data(), m.args(), stmt(t, m.selects())
		x.Distinct, x.Group, x.Having, x.Order, x.Limit = false, nil, api.Expr{}, nil, api.Expr{}
		x.Items = []api.Item{{Expr: api.Expr{Op: "value", Value: num(1)}}}
		without := run(t, m.c, d, x, m.params, args)
		x.Items = []api.Item{{Agg: "count", Star: true, Name: "count"}}
		got := run(t, m.c, d, x, m.params, args)
		if got.why != without.why || got.why == api.OK && told(got.rows) != fmt.Sprint(len(without.rows)) {
			s, _ := parse.PrintStmt(x)
			t.Fatalf("%s over %v: %v, not %d", s, d, got, len(without.rows))
		}
		if got.why == api.OK {
			counts[min(len(without.rows), 9)]++
		}
	}
	for _, n := range []int{0, 1, 2, 3, 4, 9} {
		enough(t, fmt.Sprint("counts of ", n), counts[n], 20)
	}
}

// P13.5: DISTINCT of a SELECT is that SELECT grouped by all its items; and DISTINCT of that is the same.
func TestDistinctIsGrouped(t *testing.T) {
	t.Parallel()
	m := newMaker(t, 142)
	twice := 0
	for range 5000 {
		d, args, x := m.data(), m.args(), stmt(t, m.selects())
		if isGrouped(x) {
			continue
		}
		x.Distinct = true
		want := run(t, m.c, d, x, m.params, args)
		for _, it := range x.Items {
			x.Group = append(x.Group, it.Expr)
		}
		both := run(t, m.c, d, x, m.params, args)
		x.Distinct = false
		grouped := run(t, m.c, d, x, m.params, args)
		if !sameOutcome(grouped, want) || !sameOutcome(both, want) {
			s, _ := parse.PrintStmt(x)
			t.Fatalf("%s over %v: %v %v, not %v", s, d, grouped, both, want)
		}
		x.Group = nil
		if all := run(t, m.c, d, x, m.params, args); all.why == api.OK && len(all.rows) > len(want.rows) {
			twice++
		}
	}
	enough(t, "with rows that are there twice", twice, 100)
}

// P13.6: an INSERT and a DELETE of its key leave the tables as they were.
func TestThereAndBack(t *testing.T) {
	t.Parallel()
	m := newMaker(t, 143)
	back := map[string]int{}
	for range 6000 {
		form := pick(m, m.c.Tables()...)
		d, args, s := m.data(), m.args(), m.insert(form)
		got := run(t, m.c, d, stmt(t, s), m.params, args)
		if got.why != api.OK {
			continue
		}
		if bag.Same(got.data, d) {
			t.Fatalf("%s over %v: nothing came", s, d)
		}
		place := slices.IndexFunc(m.c.Tables(), func(f api.Table) bool { return f.Name == form.Name })
		came := newRow(got.data[place], d[place])
		var key []string
		for _, i := range form.Keys[0].Cols {
			lit := told([]api.Row{{came[i]}})
			if lit == "-9223372036854775808" { // no number without its sign
				lit = "(-9223372036854775807 - 1)"
			}
			if lit == "-922337203685477.5808" {
				lit = "(-922337203685477.5807 - 0.0001)"
			}
			key = append(key, form.Cols[i].Name+" = "+lit)
		}
		gone := run(t, m.c, got.data, stmt(t, "DELETE FROM "+form.Name+" WHERE "+strings.Join(key, " AND ")), m.params, args)
		if gone.why != api.OK || told(gone.rows) != "1" || !bag.Same(gone.data, d) {
			t.Fatalf("%s and back over %v: %v", s, d, gone)
		}
		back[form.Name]++
	}
	for _, name := range []string{"t", "u", "w"} {
		enough(t, "back in "+name, back[name], 100)
	}
}

// newRow is the row that a has and b has not.
func newRow(a, b []api.Row) api.Row {
	a = slices.Clone(a)
	for _, r := range b {
		i := slices.IndexFunc(a, func(o api.Row) bool { return value.Rows(r, o) == 0 })
		a = slices.Delete(a, i, i+1)
	}
	return a[0]
}
