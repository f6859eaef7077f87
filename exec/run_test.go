package exec_test

import (
	"testing"

	"lockstep/api"
	"lockstep/bag"
	"lockstep/catalog"
	"lockstep/exec"
	"lockstep/plan"
	"lockstep/table"
)

// P16.2: Run tells Check's error ahead of plan.Check's, that ahead of args that are not as asked, that ahead of what the statement comes to; Do likewise plan.Make's. All sets of flaws are tried. With an error nothing has changed.
func TestRunErrors(t *testing.T) {
	c := made(t, two)
	l := loaded(t, c, data("1, 2, 'x'; 2, NULL, 'y'", "1, 1.5, TRUE"))
	few := l[:1]
	fine := stmt(t, "UPDATE t SET b = 5 WHERE a = :p")
	sick := stmt(t, "UPDATE t SET b = 5 / (a - a) WHERE a = :p")
	unread := stmt(t, "UPDATE t SET z = 5 WHERE a = :p")
	way := []api.Access{{From: 0, Key: 0, Same: []api.Expr{fine.Where.Parts[1]}}}
	params := []api.Col{col("p", api.BigInt)}
	for set := range 1 << 5 {
		has := func(no int) bool { return set>>no&1 == 1 }
		tables, p, args, want, wantDo := l, api.Plan{Stmt: fine, Access: way}, api.Row{num(1)}, api.OK, api.OK
		if has(4) {
			p.Stmt, want, wantDo = sick, api.ErrZero, api.ErrZero
		}
		if has(3) {
			args, want, wantDo = api.Row{text("x")}, api.ErrArg, api.ErrArg
		}
		if has(2) {
			p.Access, want = []api.Access{{From: 0, Key: 3}}, api.ErrPlan
		}
		if has(1) {
			p.Stmt, want, wantDo = unread, api.ErrName, api.ErrName
		}
		if has(0) {
			tables, want, wantDo = few, api.ErrArg, api.ErrArg
		}
		before := stateOf(l)
		x := clones(tables)
		got, why := exec.Run(c, x, p, params, args)
		if why != want || (len(got) == 0) != (want != api.OK) {
			t.Errorf("%b: Run: %v %v, not %v", set, got, why, want)
		}
		if why != api.OK && stateOf(x) != stateOf(tables) {
			t.Errorf("%b: Run: %v, but tables have changed", set, why)
		}
		x = clones(tables)
		got, why = exec.Do(c, x, p.Stmt, params, args)
		if why != wantDo || (len(got) == 0) != (wantDo != api.OK) {
			t.Errorf("%b: Do: %v %v, not %v", set, got, why, wantDo)
		}
		if why != api.OK && stateOf(x) != stateOf(tables) {
			t.Errorf("%b: Do: %v, but tables have changed", set, why)
		}
		if got, why := exec.Run(nil, l, p, params, args); len(got) != 0 || why != api.ErrArg {
			t.Errorf("%b: Run of no catalog: %v", set, why)
		}
		if got, why := exec.Do(nil, l, p.Stmt, params, args); len(got) != 0 || why != api.ErrArg {
			t.Errorf("%b: Do of no catalog: %v", set, why)
		}
		if stateOf(l) != before {
			t.Fatalf("%b: tables have changed of which only clones were handed in", set)
		}
	}
}

// P16.2: each error of Check is that of Run and Do, whatever the statement is.
func TestRunTables(t *testing.T) {
	c := made(t, two)
	l := loaded(t, c, data("1, 2, 'x'", ""))
	other := loaded(t, made(t, "CREATE TABLE t (a BIGINT, PRIMARY KEY (a)); CREATE TABLE u (a BIGINT, PRIMARY KEY (a));"), data("1", ""))
	x := stmt(t, "SELECT a FROM t")
	p := api.Plan{Stmt: x, Access: []api.Access{{Key: -1}}}
	for note, of := range map[string][]*table.Table{"none": nil, "too few": l[:1], "too many": append(clones(l), l[0]), "a nil": {l[0], nil}, "turned about": {l[1], l[0]}, "another form": {other[0], l[1]}, "of another catalog": other} {
		if got, why := exec.Run(c, of, p, nil, nil); len(got) != 0 || why != api.ErrArg || exec.Check(c, of) != why {
			t.Errorf("%s: Run: %v %v", note, got, why)
		}
		if got, why := exec.Do(c, of, x, nil, nil); len(got) != 0 || why != api.ErrArg {
			t.Errorf("%s: Do: %v %v", note, got, why)
		}
		if b, why := exec.New(c, of); b != nil || why != api.ErrArg {
			t.Errorf("%s: New: %v %v", note, b, why)
		}
	}
	if got, why := exec.Run(c, l, p, nil, nil); told(got) != "1" || why != api.OK {
		t.Errorf("%v %v", got, why)
	}
}

// P16.2: each error of plan.Check is Run's, each of plan.Make Do's.
func TestRunPlans(t *testing.T) {
	c := made(t, two)
	l := loaded(t, c, data("1, 2, 'x'", "1, 1.5, TRUE"))
	whys := map[api.Errno]int{}
	for _, s := range []string{"SELECT a FROM t WHERE a = 1", "SELECT z FROM t", "SELECT a FROM z", "SELECT a, COUNT(*) FROM t", "SELECT a FROM t WHERE a", "SELECT a FROM t WHERE :z = 1", "SELECT a FROM t ORDER BY z", "SELECT a FROM t LIMIT :z", "SELECT t.a FROM t JOIN u ON t.a = u.a AND u.d > t.b", "SELECT t.a FROM t JOIN t ON TRUE",
		"INSERT INTO t (a, s) VALUES (2, 'y')", "INSERT INTO t (a, a) VALUES (2, 'y')", "INSERT INTO t (a) VALUES ('y')", "INSERT INTO t (a) VALUES (1, 2)",
		"UPDATE t SET b = 2 WHERE s = 'x'", "UPDATE t SET s = a", "UPDATE u SET a = 2", "UPDATE t SET b = 1, b = 2", "DELETE FROM t WHERE a > 0", "DELETE FROM t WHERE s", "DELETE FROM t WHERE s || 'x'"} {
		x := stmt(t, s)
		_, isMade := plan.Make(c, x, nil)
		d := clones(l)
		got, why := exec.Do(c, d, x, nil, nil)
		if why != isMade || why != api.OK && (len(got) != 0 || stateOf(d) != stateOf(l)) {
			t.Errorf("Do of %s: %v %v, not %v", s, got, why, isMade)
		}
		one := api.Expr{Op: "value", Value: num(1)}
		for _, a := range [][]api.Access{nil, {{Key: -1}}, {{Key: 0}}, {{Key: 0, Same: []api.Expr{one}}}, {{Key: 2, Same: []api.Expr{{Op: "value", Value: text("x")}}}}, {{Key: 0, Low: one}}, {{Key: 0, High: one}}, {{Key: -1}, {Key: -1}}, {{Key: -1}, {From: 1, Key: -1}}, {{From: 1, Key: -1}, {Key: 0}}, {{From: 1}}, {{From: -1}}, {{Key: -2}}, {{Key: 3}}, {{Key: 0, Same: []api.Expr{one, one}}}, {{Key: -1, Same: []api.Expr{one}}}, {{Key: -1, Low: one}}} {
			p := api.Plan{Stmt: x, Access: a}
			want := plan.Check(c, p, nil)
			whys[want]++
			d := clones(l)
			got, why := exec.Run(c, d, p, nil, nil)
			if why != want || why != api.OK && (len(got) != 0 || stateOf(d) != stateOf(l)) {
				t.Errorf("%s by %v: %v %v, not %v", s, a, got, why, want)
			}
			if want == api.OK {
				agrees(t, c, l, p, nil, nil)
			}
		}
	}
	for _, why := range []api.Errno{api.OK, api.ErrPlan, api.ErrArg, api.ErrName, api.ErrType, api.ErrParam, api.ErrGroup, api.ErrTable, api.ErrPart} {
		if whys[why] == 0 {
			t.Errorf("none of %v", why)
		}
	}
}

// P16.2: args are as params ask: as many, each NULL or of the type, and such as can be.
func TestRunArgs(t *testing.T) {
	c := made(t, two)
	l := loaded(t, c, data("1, 2, 'x'", ""))
	fine := theArgs()
	with := func(i int, v api.Value) api.Row {
		args := theArgs()
		args[i] = v
		return args
	}
	for _, s := range []string{"SELECT a FROM t", "INSERT INTO u (a, d) VALUES (1, 2)", "UPDATE t SET b = 1", "DELETE FROM t"} {
		x := stmt(t, s)
		for _, args := range []api.Row{nil, fine[:4], append(theArgs(), null()), with(0, dec(1)), with(1, num(1)), with(2, truth(1)), with(3, num(1)), with(4, text("")), with(2, text("\xff")), with(3, truth(2)), with(0, api.Value{Type: 9})} {
			if got := does(t, c, l, x, theParams(), args); got.why != api.ErrArg {
				t.Errorf("%s with %v: %v", s, args, got.why)
			}
		}
		for i := range fine {
			if got := does(t, c, l, x, theParams(), with(i, null())); got.why != api.OK {
				t.Errorf("%s with a NULL: %v", s, got.why)
			}
		}
	}
}

// P16.2: Do's answer is Run's by plan.Make's plan, and leaves the same tables, numbers too; and what a table has seen plays no part.
func TestDo(t *testing.T) {
	c := made(t, two)
	l := loaded(t, c, data("5, 2, 'x'; 2, NULL, 'y'; 7, 7, 'z'", "1, 1.5, TRUE"))
	l[0].Delete(2)
	l[0].Insert(rows("2, NULL, 'y'")[0])
	l[0].Update(1, rows("1, 2, 'x'")[0])
	for _, s := range []string{"SELECT a, b FROM t", "SELECT t.a, d FROM t JOIN u ON u.a = t.a", "INSERT INTO t (a, s) VALUES (4, '')", "INSERT INTO t (a, s) VALUES (2, '')", "UPDATE t SET a = a + 1", "UPDATE t SET b = :p", "DELETE FROM t WHERE b IS NULL", "DELETE FROM u"} {
		all(t, c, l, s)
	}
	got := all(t, c, l, "UPDATE t SET a = a + 1")
	if want := "2, 2, 'x'; 8, 7, 'z'; 3, NULL, 'y'"; told(exec.Data(got.l)[0]) == "" || !bag.Same(exec.Data(got.l[:1]), data(want)) {
		t.Error(told(exec.Data(got.l)[0]))
	}
}

// Example 1: UPDATE t SET a = a + 1 of the primary key.
func TestExample(t *testing.T) {
	c := made(t, "CREATE TABLE t (a BIGINT, PRIMARY KEY (a));")
	l := loaded(t, c, data("1; 2; 3"))
	leaves(t, c, l, "UPDATE t SET a = a + 1", 3, "2; 3; 4")
	leaves(t, c, l, "UPDATE t SET a = a - 1", 3, "0; 1; 2")
	leaves(t, c, l, "UPDATE t SET a = 4 - a", 3, "3; 2; 1")
}

// A call panics at no arguments, and answers nothing beside an error.
func TestWrongArguments(t *testing.T) {
	c := made(t, two)
	l := loaded(t, c, data("", ""))
	odd := []api.Stmt{{}, {Kind: api.Select}, {Kind: api.Insert}, {Kind: api.Update, Table: "t"}, {Kind: api.Delete}, {Kind: 9, Table: "t"}, {Kind: -1}, {Kind: api.Select, From: []api.From{{Table: "t"}}}, {Kind: api.Delete, Table: "t", Where: api.Expr{Op: "and"}}, {Kind: api.Delete, Table: "t", Where: api.Expr{Op: "zz"}}}
	plans := [][]api.Access{nil, {{}}, {{From: 7, Key: 7}}, {{Key: -9}}, {{Same: make([]api.Expr, 9)}}, make([]api.Access, 9)}
	for _, c := range []*catalog.Catalog{c, nil} {
		for _, l := range [][]*table.Table{l, nil, {nil, nil}} {
			for i, x := range odd {
				_, want := plan.Make(c, x, nil)
				if why := exec.Check(c, l); why != api.OK {
					want = why
				}
				if got, why := exec.Do(c, l, x, nil, nil); len(got) != 0 || why != want || why == api.OK {
					t.Errorf("Do of %d: %v %v, not %v", i, got, why, want)
				}
				for _, a := range plans {
					if got, why := exec.Run(c, l, api.Plan{Stmt: x, Access: a}, nil, nil); len(got) != 0 || why != want {
						t.Errorf("Run of %d by %v: %v %v, not %v", i, a, got, why, want)
					}
				}
			}
		}
	}
}
