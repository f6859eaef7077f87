package beside_test

import (
	"slices"
	"testing"

	"lockstep/api"
	"lockstep/beside"
	"lockstep/catalog"
	"lockstep/parse"
)

func num(n int64) api.Value   { return api.Value{Type: api.BigInt, Int: n} }
func text(s string) api.Value { return api.Value{Type: api.Text, Text: s} }

func stmt(t *testing.T, s string) api.Stmt {
	t.Helper()
	x, at, why := parse.Stmt(s)
	if why != api.OK {
		t.Fatal(s, at, why)
	}
	return x
}

func ex(t *testing.T, s string) api.Expr {
	t.Helper()
	e, at, why := parse.Expr(s)
	if why != api.OK {
		t.Fatal(s, at, why)
	}
	return e
}

// scene is two tables, and two parameters.
func scene(t *testing.T) (*catalog.Catalog, beside.Scene) {
	t.Helper()
	c, _, why := catalog.Load("CREATE TABLE t (a BIGINT, s VARCHAR(9), PRIMARY KEY (a)); CREATE TABLE u (a BIGINT, d DECIMAL, PRIMARY KEY (a));")
	if why != api.OK {
		t.Fatal(why)
	}
	return c, beside.Scene{Forms: c.Tables(), Params: []api.Col{{Name: "p", Type: api.BigInt}, {Name: "q", Type: api.Text}}, Args: api.Row{num(7), text("x")}}
}

// sight is t as the row behind that of u.
func sight(s *beside.Scene) beside.Sight {
	var v beside.Sight
	v.Widen("t", &s.Forms[0], 1)
	v.Widen("u", &s.Forms[1], 0)
	return v
}

func TestScene(t *testing.T) {
	_, s := scene(t)
	if s.Place("t") != 0 || s.Place("u") != 1 || !s.AreAsked() {
		t.Error("places or values are others")
	}
	for _, args := range []api.Row{nil, {num(7)}, {text("x"), text("x")}, {num(7), text("\xff")}, {num(7), {}, {}}} {
		s.Args = args
		if s.AreAsked() {
			t.Errorf("%v are not asked for", args)
		}
	}
	for _, x := range [][3]api.Errno{{api.OK, api.OK, api.OK}, {api.OK, api.ErrZero, api.ErrZero}, {api.ErrZero, api.OK, api.ErrZero}, {api.ErrZero, api.ErrOver, api.ErrOver}, {api.ErrForm, api.ErrOver, api.ErrForm}} {
		if got := beside.Lesser(x[0], x[1]); got != x[2] {
			t.Errorf("%v, %v: %v", x[0], x[1], got)
		}
	}
}

func TestTerm(t *testing.T) {
	_, s := scene(t)
	rows := beside.Rows{{num(2), {Type: api.Dec, Int: 15000}}, {num(5), text("ab")}}
	for _, x := range []struct {
		e     string
		needs int
		typ   int
		want  api.Value
		why   api.Errno
	}{
		{"7", 0, api.BigInt, num(7), api.OK},
		{":p + 1", 0, api.BigInt, num(8), api.OK},
		{"u.a", 1, api.BigInt, num(2), api.OK},
		{"d + u.a", 1, api.Dec, api.Value{Type: api.Dec, Int: 35000}, api.OK},
		{"t.a * u.a + :p", 2, api.BigInt, num(17), api.OK},
		{"s || :q", 2, api.Text, text("abx"), api.OK},
		{"t.a / (u.a - 2)", 2, api.BigInt, api.Value{}, api.ErrZero},
		{"NULL", 0, api.Null, api.Value{}, api.OK},
	} {
		term := s.Term(ex(t, x.e), sight(&s))
		got, why := term.Of(rows)
		if got != x.want || why != x.why || term.Needs() != x.needs || term.Type() != x.typ {
			t.Errorf("%s: %v %v, needs %d, of the type %d", x.e, got, why, term.Needs(), term.Type())
		}
	}
}

func TestCondition(t *testing.T) {
	_, s := scene(t)
	rows := beside.Rows{{num(2), {}}, {num(5), text("ab")}}
	for _, x := range []struct {
		e     string
		holds bool
		why   api.Errno
	}{
		{"u.a = 2 AND t.a = 5", true, api.OK}, {"u.a = 2 AND t.a = 6", false, api.OK}, {"d = 1", false, api.OK}, {"1 / 0 = 1", false, api.ErrZero},
		{"1 / 0 = 1 AND t.a = 6", false, api.OK}, {"1 / 0 = 1 AND d = 1", false, api.OK}, {"1 / 0 = 1 AND CAST(s AS BIGINT) = 1 AND u.a = 2", false, api.ErrForm},
	} {
		c := s.Condition(ex(t, x.e), sight(&s))
		if holds, why := c.Holds(rows); holds != x.holds || why != x.why {
			t.Errorf("%s: %v %v", x.e, holds, why)
		}
	}
	none := s.Condition(api.Expr{}, sight(&s))
	if holds, why := none.Holds(nil); !holds || why != api.OK {
		t.Error("no condition does not hold", why)
	}
}

// Each Part is asked where the last one of the rows stands that it names; a name of an On means what it means beside the tables ahead.
func TestJoin(t *testing.T) {
	_, s := scene(t)
	x := stmt(t, "SELECT t.a FROM t JOIN u ON s = 'a' AND u.a = t.a JOIN t AS w ON d = 1 AND TRUE WHERE w.a = 1 AND t.a = 1 AND w.s = t.s")
	for _, p := range []struct{ places, want []int }{{[]int{0, 1, 2}, []int{1, 2, 2, 2}}, {[]int{2, 1, 0}, []int{1, 1, 1, 4}}, {[]int{1, 2, 0}, []int{1, 1, 3, 2}}} {
		j := s.Join(&x, p.places)
		var got []int
		for _, c := range j.Conds {
			got = append(got, len(c))
		}
		if !slices.Equal(got, p.want) {
			t.Errorf("%v: %v, not %v", p.places, got, p.want)
		}
	}
	for _, x := range []struct {
		rows []int
		want bool
	}{{nil, false}, {[]int{4096, 256}, false}, {[]int{4096, 257}, true}, {[]int{4096, 4096, 4096, 4096}, true}, {[]int{4096, 4096, 0}, false}, {[]int{1024, 1024, 1}, false}} {
		if got := beside.AreMany(x.rows); got != x.want {
			t.Errorf("%v: %v", x.rows, got)
		}
	}
}

func TestGroups(t *testing.T) {
	_, s := scene(t)
	g := s.Groups([]api.Expr{ex(t, "u.a / t.a"), ex(t, "s")}, sight(&s))
	for i, x := range []struct {
		u, t api.Value
		s    api.Value
		no   int
		why  api.Errno
	}{
		{num(4), num(2), text("a"), 0, api.OK}, {num(4), num(2), text("b"), 1, api.OK}, {num(4), num(0), text("b"), 0, api.ErrZero}, {num(9), num(4), text("b"), 1, api.OK},
		{api.Value{}, num(4), text("b"), 2, api.OK}, {num(2), num(1), api.Value{}, 3, api.OK}, {num(5), num(2), text("a"), 0, api.OK}, {num(5), api.Value{}, text("b"), 2, api.OK},
	} {
		if no, why := g.Of(beside.Rows{{x.u, {}}, {x.t, x.s}}); no != x.no || why != x.why {
			t.Errorf("%d: %d %v, not %d %v", i, no, why, x.no, x.why)
		}
	}
	one := s.Groups(nil, sight(&s))
	for range 2 {
		if no, why := one.Of(nil); no != 0 || why != api.OK {
			t.Errorf("grouped by nothing: %d %v", no, why)
		}
	}
}

func TestAnswers(t *testing.T) {
	c, s := scene(t)
	x := stmt(t, "SELECT DISTINCT a, s FROM t GROUP BY a, s HAVING a < :p ORDER BY s DESC")
	cols, _ := c.Answer(x, s.Params)
	a := s.Answers(&x, cols)
	for _, n := range []int64{3, 1, 7, 2, 1, 8, 3} {
		a.Add(api.Row{num(n), text(string(rune('a' + n%2)))})
	}
	got, why := a.First(2)
	if want := []api.Row{{num(1), text("b")}, {num(3), text("b")}}; why != api.OK || !slices.EqualFunc(got, want, slices.Equal[api.Row]) {
		t.Errorf("%v %v, not %v", got, why, want)
	}
	a = s.Answers(&x, cols)
	for i := range int64(3 * api.MaxAnswer) { // each once they are as many as may be
		a.Add(api.Row{num(-i % api.MaxAnswer), text("")})
	}
	if got, why := a.First(9); why != api.OK || len(got) != 9 {
		t.Errorf("%d %v", len(got), why)
	}
	a.Add(api.Row{num(1), text("")})
	if got, why := a.First(1); why != api.ErrLong || len(got) != 0 {
		t.Errorf("%d %v", len(got), why)
	}
}

func TestBecome(t *testing.T) {
	_, s := scene(t)
	x := stmt(t, "UPDATE u SET d = a, a = a + :p")
	var v beside.Sight
	v.Widen("u", &s.Forms[1], 0)
	was := api.Row{num(3), {}}
	sets := s.Sets(&x, &s.Forms[1], v)
	got, why := beside.Become(was, sets, beside.Rows{was})
	if want := (api.Row{num(10), {Type: api.Dec, Int: 30000}}); why != api.OK || !slices.Equal(got, want) || was[0] != num(3) {
		t.Errorf("%v %v, not %v; it was %v", got, why, want, was)
	}
	if _, why := beside.Become(was, sets, beside.Rows{{num(1<<63 - 1), {}}}); why != api.ErrOver {
		t.Errorf("%v", why)
	}
	x = stmt(t, "INSERT INTO u (d) VALUES (:p)")
	if got, why := s.Inserted(&x, &s.Forms[1]); why != api.OK || !slices.Equal(got, api.Row{{}, {Type: api.Dec, Int: 70000}}) {
		t.Errorf("%v %v", got, why)
	}
}
