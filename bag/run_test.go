package bag_test

import (
	"math"
	"strings"
	"testing"

	"lockstep/api"
	"lockstep/bag"
)

// P13.2: what is refused ahead of all: a nil catalog, data that can't be, a statement that the catalog refuses, args that are not as params ask; in this order.
func TestRefusals(t *testing.T) {
	c := made(t, joined)
	good, bad := data("1, NULL; 2, 5", "", ""), data("1, NULL; 2, 5", "")
	wrong := stmt(t, "SELECT z FROM t LIMIT :m")
	fine := stmt(t, "SELECT a FROM t WHERE a > :m")
	params, args := []api.Col{col("m", api.BigInt)}, api.Row{num(1)}
	if l, d, why := bag.Run(nil, good, fine, params, args); len(l) != 0 || len(d) != 0 || why != api.ErrArg {
		t.Error("a nil catalog:", l, d, why)
	}
	if _, _, why := bag.Run(nil, nil, wrong, nil, nil); why != api.ErrArg {
		t.Error("a nil catalog, and all else:", why)
	}
	for _, x := range []struct {
		d      api.Data
		x      api.Stmt
		params []api.Col
		args   api.Row
		want   api.Errno
	}{
		{good, fine, params, args, api.OK},
		{bad, fine, params, args, api.ErrArg},
		{data("NULL, 1", "", ""), wrong, params, nil, api.ErrNull},
		{data("1, 1; 1, 1", "", ""), wrong, params, nil, api.ErrTwice},
		{data("", "", "1, '1234567890'"), wrong, params, nil, api.ErrLong},
		{good, wrong, params, nil, api.ErrName},
		{good, wrong, params, api.Row{text("x")}, api.ErrName},
		{good, fine, nil, nil, api.ErrParam},
		{good, fine, nil, args, api.ErrParam},
		{good, fine, []api.Col{col("m", api.Text)}, nil, api.ErrType},
		{good, api.Stmt{}, params, args, api.ErrArg},
		{good, api.Stmt{Kind: 5, Table: "t"}, params, args, api.ErrArg},
		{good, fine, []api.Col{col("m", api.BigInt), col("m", api.BigInt)}, api.Row{num(1), num(1)}, api.ErrArg},
		{good, fine, []api.Col{col("m", api.BigInt), col("k", 0)}, api.Row{num(1), null()}, api.ErrArg},
		{good, fine, []api.Col{col("m", api.BigInt), col("k", 5)}, api.Row{num(1), null()}, api.ErrArg},
		// Args.
		{good, fine, params, nil, api.ErrArg},
		{good, fine, params, api.Row{}, api.ErrArg},
		{good, fine, params, api.Row{num(1), num(1)}, api.ErrArg},
		{good, fine, params, api.Row{null()}, api.OK},
		{good, fine, params, api.Row{{Type: api.Null, Int: 7, Text: "\xff"}}, api.OK},
		{good, fine, params, api.Row{{Type: api.BigInt, Int: 7, Text: "\xff"}}, api.OK},
		{good, fine, params, api.Row{dec(1)}, api.ErrArg},
		{good, fine, params, api.Row{text("x")}, api.ErrArg},
		{good, fine, params, api.Row{truth(1)}, api.ErrArg},
		{good, fine, params, api.Row{{Type: 5}}, api.ErrArg},
		{good, fine, params, api.Row{{Type: -1}}, api.ErrArg},
	} {
		if got := run(t, c, x.d, x.x, x.params, x.args); got.why != x.want {
			t.Errorf("%v %v %v: %v, not %v", x.d, x.params, x.args, got.why, x.want)
		}
	}
}

// P13.2: args are looked at also if nothing in the statement names them, or no row is there to ask.
func TestArgsThatNobodyNames(t *testing.T) {
	c, d := made(t, joined), data("", "", "")
	params := theParams()
	for _, s := range []string{"SELECT a FROM t", "DELETE FROM t", "UPDATE t SET b = 1", "INSERT INTO t (a) VALUES (1)"} {
		for _, x := range []struct {
			i    int
			v    api.Value
			want api.Errno
		}{
			{0, num(7), api.OK}, {0, null(), api.OK}, {0, dec(7), api.ErrArg}, {1, num(7), api.ErrArg}, {2, text(strings.Repeat("x", api.MaxText)), api.OK}, {2, text(strings.Repeat("x", api.MaxText+1)), api.ErrArg},
			{2, text("\xff"), api.ErrArg}, {2, truth(1), api.ErrArg}, {3, truth(2), api.ErrArg}, {3, truth(0), api.OK}, {3, num(0), api.ErrArg}, {4, api.Value{Type: 6}, api.ErrArg},
		} {
			args := theArgs()
			args[x.i] = x.v
			if got := run(t, c, d, stmt(t, s), params, args); got.why != x.want {
				t.Errorf("%s, %+v at %d: %v, not %v", s, x.v, x.i, got.why, x.want)
			}
		}
		if got := run(t, c, d, stmt(t, s), params, theArgs()[:4]); got.why != api.ErrArg {
			t.Error(s, got.why)
		}
		if got := run(t, c, d, stmt(t, s), params, append(theArgs(), null())); got.why != api.ErrArg {
			t.Error(s, got.why)
		}
	}
}

// P13.2: parameters keep their types, also if their values are NULL.
func TestParamsAreTyped(t *testing.T) {
	c, d := made(t, plain), data("1, 2, NULL, NULL, NULL", "")
	for _, x := range []struct {
		s    string
		typ  int
		arg  api.Value
		want string
	}{
		{"SELECT COALESCE(:m, 1) FROM t", api.Dec, null(), "1.0"}, {"SELECT COALESCE(:m, 1) FROM t", api.BigInt, null(), "1"},
		{"SELECT a + :m FROM t", api.Dec, dec(5000), "1.5"}, {"SELECT MAX(COALESCE(:m, b)) FROM t", api.Dec, null(), "2.0"},
		{"SELECT :m FROM t GROUP BY :m", api.Text, text("x"), "'x'"}, {"SELECT a FROM t WHERE :m", api.Bool, truth(1), "1"}, {"SELECT a FROM t WHERE :m", api.Bool, null(), ""},
		{"SELECT :m AS a, COUNT(*) AS n FROM t GROUP BY b HAVING a = :m", api.BigInt, num(3), "3, 1"},
		{"SELECT SUM(:m) FROM t", api.Dec, dec(5000), "0.5"}, {"SELECT SUM(:m) FROM t", api.Dec, null(), "NULL"},
	} {
		got := run(t, c, d, stmt(t, x.s), []api.Col{col("k", api.Text), col("m", x.typ), col("l", api.Bool)}, api.Row{text("\u00e9"), x.arg, truth(0)})
		if got.why != api.OK || told(got.rows) != x.want {
			t.Errorf("%s, %v: %s %v, not %s", x.s, x.arg, told(got.rows), got.why, x.want)
		}
	}
	leaves(t, c, d, "UPDATE t SET d = :p, s = :r, f = :f", 1, 0, "1, 2, 1.0, 'x', TRUE")
	got := run(t, c, d, stmt(t, "UPDATE t SET d = :m"), []api.Col{col("m", api.BigInt)}, api.Row{num(math.MaxInt64)})
	if got.why != api.ErrOver {
		t.Error(got.why)
	}
}

// P13.2: what plays no part in a statement changes nothing.
func TestWhatPlaysNoPart(t *testing.T) {
	c, d := made(t, plain), plainData()
	junk := api.Expr{Op: "zz", Parts: []api.Expr{{Op: "/", Parts: []api.Expr{{Op: "value", Value: num(1)}, {Op: "value", Value: num(0)}}}}}
	none := junk
	none.Op = ""
	for _, s := range []string{"SELECT a, b FROM t", "SELECT COUNT(*), SUM(b) FROM t", "SELECT t.a FROM t JOIN u ON t.a = u.a", "UPDATE t SET b = 1", "DELETE FROM t", "INSERT INTO t (a) VALUES (9)"} {
		x := stmt(t, s)
		want := run(t, c, d, x, nil, nil)
		if want.why != api.OK {
			t.Fatal(s, want.why)
		}
		switch x.Kind {
		case api.Select:
			x.From[0].On = junk
			x.Table, x.Cols, x.Values, x.Sets = "zz", []string{"zz"}, []api.Expr{junk}, []api.Set{{Name: "zz"}}
			x.Where, x.Having, x.Limit = none, none, none
			for i := range x.Items {
				if m := &x.Items[i]; m.Star {
					m.Distinct, m.Expr = true, junk
				} else if m.Agg == "" {
					m.Star, m.Distinct = true, true
				}
			}
		default:
			x.Distinct, x.Items, x.From, x.Group = true, []api.Item{{Agg: "zz"}}, []api.From{{Table: "zz", On: junk}}, []api.Expr{junk}
			x.Having, x.Order, x.Limit = junk, []api.Order{{Name: "zz"}}, junk
			if x.Kind == api.Insert {
				x.Where = junk
			} else {
				x.Where = none
			}
		}
		got := run(t, c, d, x, nil, nil)
		if got.why != want.why || told(got.rows) != told(want.rows) || !bag.Same(got.data, want.data) {
			t.Errorf("%s: %s %v, not %s", s, told(got.rows), got.why, told(want.rows))
		}
	}
}

// smear writes over all rows of an answer, and behind them as far as there is room.
func smear(l []api.Row) {
	for _, r := range l {
		r = r[:cap(r)]
		for i := range r {
			r[i] = text("smeared")
		}
		_ = append(r, text("more"))
	}
	clear(l[:cap(l)])
}

// Memory: what was answered is nobody else's: it may be written over, and what is answered then is the same as before; so with what was handed in.
func TestAnswersAreOwn(t *testing.T) {
	c := made(t, plain)
	for _, s := range []string{
		"SELECT a, b, s FROM t", "SELECT a, b FROM t ORDER BY b DESC LIMIT 2", "SELECT DISTINCT b FROM t", "SELECT b, COUNT(*) FROM t GROUP BY b", "SELECT x.a, y.a AS o FROM t AS x JOIN t AS y ON TRUE",
		"UPDATE t SET b = 1 WHERE a = 1", "DELETE FROM t WHERE a = 1", "INSERT INTO t (a) VALUES (9)", "UPDATE t SET b = 1 WHERE FALSE",
	} {
		d, x := plainData(), stmt(t, s)
		l, behind, _ := bag.Run(c, d, x, nil, nil)
		again, after, _ := bag.Run(c, d, x, nil, nil)
		want, wantAfter := told(again), bag.Sorted(after)
		smear(l)
		for _, rows := range behind {
			smear(rows)
		}
		clear(behind)
		if told(again) != want || !bag.Same(after, wantAfter) || !bag.Same(d, plainData()) {
			t.Errorf("%s: %s, not %s", s, told(again), want)
		}
		for _, rows := range d {
			smear(rows)
		}
		if told(again) != want || !bag.Same(after, wantAfter) {
			t.Errorf("%s: %s, not %s", s, told(again), want)
		}
	}
	d := plainData()
	one, other := bag.Sorted(d), bag.Sorted(d)
	for _, rows := range one {
		smear(rows)
	}
	if !bag.Same(other, plainData()) || !bag.Same(d, plainData()) {
		t.Error(other, d)
	}
}
