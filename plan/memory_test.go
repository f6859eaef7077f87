package plan_test

import (
	"reflect"
	"testing"

	"lockstep/api"
	"lockstep/plan"
)

// Memory: what is handed in stays as it was and is not kept; what is answered is new, and shares nothing.
func TestMemory(t *testing.T) {
	t.Parallel()
	m := newMaker(t, 157)
	for i := range 3000 {
		if i%20 == 0 {
			m.tables()
		}
		s := m.stmt()
		if m.one(10) {
			s = "DELETE FROM zz WHERE a = 1" // an error
		}
		was, forms := show(m.c.Tables()), m.c.Tables()
		x, xx := withRoom(stmt(t, s)), withRoom(stmt(t, s))
		ps, pps := withRoom(theParams()), withRoom(theParams())
		p, why := plan.Make(m.c, x, ps)
		q, _ := plan.Make(m.c, x, ps)
		if !untouched(x, xx) || !untouched(ps, pps) {
			t.Fatalf("%s: what Make was handed has changed", s)
		}
		apart(t, s, x, ps, p, q, forms)
		want := show(q)
		smear(x)
		smear(ps)
		smear(p)
		if show(q) != want || show(m.c.Tables()) != was {
			t.Fatalf("%s: %s, not %s", s, show(q), want)
		}
		if why != api.OK {
			continue
		}
		in, also := withRoom(q), withRoom(q)
		ps = withRoom(theParams())
		if m.one(3) {
			in.Access = m.bent(modelOf(m.c, q.Stmt, ps), in.Access)
			in, also = withRoom(in), withRoom(in)
		}
		plan.Check(m.c, in, ps)
		plan.Print(m.c, in)
		if !untouched(in, also) || !untouched(ps, pps) {
			t.Fatalf("%s: what Check or Print was handed has changed", s)
		}
	}
}

// stuffed is the same with what plays no part in it: in expressions, in clauses of other kinds.
func stuffed(x api.Stmt) api.Stmt {
	x = withRoom(x)
	stuff(reflect.ValueOf(&x).Elem())
	more := ex("zz = 1 / 0")
	if x.Kind == api.Select {
		x.From[0].On = more
		x.Table, x.Cols, x.Values, x.Sets = "zz", []string{"zz"}, exs("1"), []api.Set{{Name: "zz"}}
		for i := range x.Items {
			if x.Items[i].Agg == "" {
				x.Items[i].Star, x.Items[i].Distinct = true, true
			} else if x.Items[i].Star {
				x.Items[i].Distinct, x.Items[i].Expr = true, more
			}
		}
		return x
	}
	x.Distinct, x.Items, x.From, x.Group = true, []api.Item{{Name: "zz"}}, []api.From{{Table: "zz"}}, exs("zz")
	x.Having, x.Order, x.Limit = more, []api.Order{{Name: "zz"}}, more
	if x.Kind == api.Insert {
		x.Where = more
	} else {
		x.Cols, x.Values = []string{"zz"}, exs("zz")
	}
	if x.Kind != api.Update {
		x.Sets = []api.Set{{Name: "zz"}}
	}
	return x
}

// stuff fills what each expression's Op does not name.
func stuff(v reflect.Value) {
	if e, is := v.Addr().Interface().(*api.Expr); is && e.Op != "" {
		switch e.Op {
		case "value":
			e.Name, e.Of, e.Type = "zz", "zz", 9
			if e.Value.Type != api.Text {
				e.Value.Text = "\xff"
			}
			if e.Value.Type == api.Null || e.Value.Type == api.Text {
				e.Value.Int = 7
			}
		case "column":
			e.Value, e.Type = truth(7), 3
		case "cast":
			e.Name, e.Of, e.Value = "zz", "zz", num(7)
		case "param":
			e.Of, e.Type, e.Value = "zz", 8, text("x")
		default:
			e.Name, e.Of, e.Type, e.Value = "zz", "zz", 7, dec(7)
		}
	}
	switch v.Kind() {
	case reflect.Slice:
		for i := range v.Len() {
			stuff(v.Index(i))
		}
	case reflect.Struct:
		for i := range v.NumField() {
			stuff(v.Field(i))
		}
	}
}

// What plays no part plays none, and is in no answer.
func TestWhatPlaysNoPart(t *testing.T) {
	t.Parallel()
	m := newMaker(t, 158)
	for i := range 3000 {
		if i%20 == 0 {
			m.tables()
		}
		s := m.stmt()
		p := planOf(t, m.c, s)
		x := stuffed(stmt(t, s))
		q, why := plan.Make(m.c, x, theParams())
		if why != api.OK || show(q) != show(p) {
			t.Fatalf("%s: %+v %v, not %+v", s, q, why, p)
		}
		told, _ := plan.Print(m.c, p)
		in := api.Plan{Stmt: x, Access: withRoom(p.Access)}
		for i := range in.Access {
			stuff(reflect.ValueOf(&in.Access[i]).Elem())
		}
		if why := plan.Check(m.c, in, theParams()); why != api.OK {
			t.Fatalf("%s: %v", s, why)
		}
		if text, why := plan.Print(m.c, in); text != told || why != api.OK {
			t.Fatalf("%s: %q %v, not %q", s, text, why, told)
		}
	}
}

// Nil and empty lists are alike.
func TestNilAndEmpty(t *testing.T) {
	c := made(t, tables)
	p := planOf(t, c, "SELECT a FROM t WHERE a > 1")
	for _, same := range [][]api.Expr{nil, {}} {
		p.Access[0].Same = same
		if why := plan.Check(c, p, nil); why != api.OK {
			t.Error(why)
		}
		if s, why := plan.Print(c, p); s != "t primary a > 1\n" || why != api.OK {
			t.Error(s, why)
		}
	}
	x := stmt(t, "INSERT INTO t (a) VALUES (1)")
	for _, l := range [][]api.Access{nil, {}} {
		if why := plan.Check(c, api.Plan{Stmt: x, Access: l}, []api.Col{}); why != api.OK {
			t.Error(why)
		}
		if s, why := plan.Print(c, api.Plan{Stmt: x, Access: l}); s != "" || why != api.OK {
			t.Error(s, why)
		}
	}
}

// From arguments alone: the same again answers the same, whatever was asked between.
func TestAskedAgain(t *testing.T) {
	c := made(t, tables)
	l := []string{"SELECT a FROM t WHERE a = 1", "SELECT t.a FROM t JOIN u ON t.a = u.a WHERE u.d = 1", "DELETE FROM t WHERE b = 1", "INSERT INTO t (a) VALUES (1)", "UPDATE u SET g = 1 WHERE a > 2"}
	var want []string
	for _, s := range l {
		want = append(want, show(planOf(t, c, s)))
	}
	for range 3 {
		for i, s := range l {
			plan.Make(c, api.Stmt{}, nil)
			if got := show(planOf(t, c, s)); got != want[i] {
				t.Errorf("%s: %s, not %s", s, got, want[i])
			}
		}
	}
}
