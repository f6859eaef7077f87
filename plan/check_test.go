package plan_test

import (
	"strings"
	"testing"

	"lockstep/api"
	"lockstep/catalog"
	"lockstep/plan"
)

// checked is what Check tells of a statement with accesses.
func checked(t *testing.T, c *catalog.Catalog, s string, l ...api.Access) api.Errno {
	t.Helper()
	return plan.Check(c, api.Plan{Stmt: stmt(t, s), Access: l}, theParams())
}

func isPlan(t *testing.T, c *catalog.Catalog, s string, l ...api.Access) {
	t.Helper()
	if why := checked(t, c, s, l...); why != api.OK {
		t.Errorf("%s by %+v: %v", s, l, why)
	}
}

func isNone(t *testing.T, c *catalog.Catalog, s string, l ...api.Access) {
	t.Helper()
	if why := checked(t, c, s, l...); why != api.ErrPlan {
		t.Errorf("%s by %+v: %v", s, l, why)
	}
}

// all is an access to all rows of a From.
func all(from int) api.Access { return api.Access{From: from, Key: -1} }

// by is an access by a key.
func by(from, key int, same ...string) api.Access {
	return api.Access{From: from, Key: key, Same: exs(same...)}
}

// low and high are an access with one more end.
func low(a api.Access, e string, in bool) api.Access {
	a.Low, a.LowIn = ex(e), in
	return a
}

func high(a api.Access, e string, in bool) api.Access {
	a.High, a.HighIn = ex(e), in
	return a
}

// P15.3: an access for each From just once, or as the statement's kind asks.
func TestHowManyAccesses(t *testing.T) {
	c := made(t, tables)
	const one, two, three = "SELECT a FROM t", "SELECT t.a FROM t JOIN u ON TRUE", "SELECT t.a FROM t JOIN u ON TRUE JOIN u AS v ON TRUE"
	isPlan(t, c, one, all(0))
	isNone(t, c, one)
	isNone(t, c, one, all(0), all(0))
	isNone(t, c, one, all(0), all(1))
	isNone(t, c, one, all(1))
	isNone(t, c, one, all(-1))
	isNone(t, c, one, all(-1<<63))
	isNone(t, c, one, all(1<<63-1))
	isNone(t, c, one, all(64))
	isPlan(t, c, two, all(0), all(1))
	isPlan(t, c, two, all(1), all(0))
	isNone(t, c, two)
	isNone(t, c, two, all(0))
	isNone(t, c, two, all(1))
	isNone(t, c, two, all(0), all(0))
	isNone(t, c, two, all(1), all(1))
	isNone(t, c, two, all(0), all(2))
	isNone(t, c, two, all(-1), all(0))
	isNone(t, c, two, all(0), all(1), all(0))
	isNone(t, c, two, all(0), all(1), all(2))
	for _, l := range [][]int{{0, 1, 2}, {0, 2, 1}, {1, 0, 2}, {1, 2, 0}, {2, 0, 1}, {2, 1, 0}} {
		isPlan(t, c, three, all(l[0]), all(l[1]), all(l[2]))
	}
	isNone(t, c, three, all(0), all(1))
	isNone(t, c, three, all(0), all(1), all(1))
	for _, s := range []string{"UPDATE t SET b = 1", "DELETE FROM t"} {
		isPlan(t, c, s, all(0))
		isNone(t, c, s)
		isNone(t, c, s, all(1))
		isNone(t, c, s, all(-1))
		isNone(t, c, s, all(0), all(0))
		isNone(t, c, s, all(0), all(1))
	}
	isPlan(t, c, "INSERT INTO t (a) VALUES (1)")
	isNone(t, c, "INSERT INTO t (a) VALUES (1)", all(0))
	isNone(t, c, "INSERT INTO t (a) VALUES (1)", by(0, 0))
	isNone(t, c, "INSERT INTO t (a) VALUES (1)", api.Access{From: -1, Key: -1})
	// What a statement's kind does not name plays no part: not even a From of an UPDATE, a Where of an INSERT.
	x := stmt(t, "DELETE FROM t WHERE a = 1")
	x.From, x.Items = stmt(t, three).From, stmt(t, three).Items
	if why := plan.Check(c, api.Plan{Stmt: x, Access: []api.Access{by(0, 0, "1")}}, nil); why != api.OK {
		t.Error(why)
	}
	x = stmt(t, "INSERT INTO t (a) VALUES (1)")
	x.Where, x.From = ex("a = 1"), stmt(t, three).From
	if why := plan.Check(c, api.Plan{Stmt: x}, nil); why != api.OK {
		t.Error(why)
	}
	if p, why := plan.Make(c, x, nil); why != api.OK || len(p.Access) != 0 {
		t.Error(p, why)
	}
}

// P15.3: a Key is from -1 to the last of its table's.
func TestKeyNumbers(t *testing.T) {
	c := made(t, tables) // t has four keys, u two
	for key := -3; key <= 6; key++ {
		for from, keys := range []int{4, 2} {
			l := []api.Access{all(0), all(1)}
			l[from].Key = key
			want := api.ErrPlan
			if key >= -1 && key < keys {
				want = api.OK // without a bound, by whichever key
			}
			if why := checked(t, c, "SELECT t.a FROM t JOIN u ON TRUE", l...); why != want {
				t.Errorf("%d of %d: %v", key, from, why)
			}
		}
	}
	for _, key := range []int{-1 << 63, -2, 4, 64, 1<<63 - 1} {
		isNone(t, c, "SELECT a FROM t", api.Access{Key: key})
	}
	// With Key -1 there is nothing that it goes by.
	const s = "SELECT s FROM t WHERE a = 1 AND a > 2 AND a <= 3"
	isPlan(t, c, s, by(0, 0, "1"))
	isNone(t, c, s, by(0, -1, "1"))
	isPlan(t, c, s, low(by(0, 0), "2", false))
	isNone(t, c, s, low(all(0), "2", false))
	isPlan(t, c, s, high(by(0, 0), "3", true))
	isNone(t, c, s, high(all(0), "3", true))
	isPlan(t, c, s, all(0))
	isPlan(t, c, s, high(low(by(0, 0), "2", false), "3", true))
	isNone(t, c, s, high(low(all(0), "2", false), "3", true))
}

// P15.3: there are no more Same than columns, and a Low or a High has one more.
func TestTooManySame(t *testing.T) {
	c := made(t, `CREATE TABLE t (a BIGINT, b BIGINT, c BIGINT, PRIMARY KEY (a), INDEX i (b, c), INDEX j (b));`)
	const s = "SELECT a FROM t WHERE a = 1 AND b = 1 AND c = 1 AND a > 1 AND b > 1 AND c > 1 AND a < 1 AND b < 1 AND c < 1"
	for key, cols := range []int{1, 2, 1} {
		for n := range 5 {
			same := exs(strings.Split(strings.Repeat("1 ", n), " ")[:n]...)
			a := api.Access{Key: key, Same: same}
			for ends := range 4 {
				b := a
				asked := n
				if ends&1 != 0 {
					b = low(b, "1", false)
				}
				if ends&2 != 0 {
					b = high(b, "1", false)
				}
				if ends != 0 {
					asked++
				}
				want := api.ErrPlan
				if asked <= cols {
					want = api.OK
				}
				if why := checked(t, c, s, b); why != want {
					t.Errorf("the key %d by %+v: %v, not %v", key, b, why, want)
				}
			}
		}
	}
}

// P15.3: each Same, Low and High is the other side of a condition that binds just that column so.
func TestOtherSides(t *testing.T) {
	c := made(t, tables)
	const s = "SELECT s FROM t WHERE b = 1 AND c > 2 AND c >= 3 AND :p + 1 > c AND c <= 5 AND a = 6 AND d = 7 AND d = 1.5 AND a <> 8"
	isPlan(t, c, s, high(low(by(0, 1, "1"), "2", false), ":p + 1", false))
	isPlan(t, c, s, high(low(by(0, 1, "1"), "3", true), "5", true))
	isPlan(t, c, s, high(low(by(0, 1, "1"), "3", true), ":p + 1", false))
	isPlan(t, c, s, high(low(by(0, 1, "1"), "2", false), "5", true))
	isPlan(t, c, s, by(0, 1, "1"))
	isPlan(t, c, s, by(0, 0, "6"))
	isPlan(t, c, s, by(0, 2, "7"))
	isPlan(t, c, s, by(0, 2, "1.5"))
	for _, a := range []api.Access{
		by(0, 1, "2"), by(0, 1, "6"), by(0, 1, ":p"), by(0, 1, "b"), by(0, 1, "t.b"), by(0, 1, "NULL"), by(0, 1, "1.0"), by(0, 1, "b = 1"), by(0, 1, "1 + 0"),
		by(0, 0, "8"), by(0, 0, "1"), by(0, 2, "7.0"), by(0, 2, "6"),
		by(0, 1, "1", "2"), by(0, 1, "1", "3"), by(0, 1, "1", "5"), by(0, 1, "1", "1"),
		low(by(0, 1, "1"), "2", true), low(by(0, 1, "1"), "3", false), low(by(0, 1, "1"), "5", true), low(by(0, 1, "1"), ":p + 1", false), low(by(0, 1, "1"), "4", false),
		high(by(0, 1, "1"), ":p + 1", true), high(by(0, 1, "1"), "5", false), high(by(0, 1, "1"), "2", false), high(by(0, 1, "1"), "3", true), high(by(0, 1, "1"), ":p", false), high(by(0, 1, "1"), "1 + :p", false),
		low(by(0, 1), "2", false), high(by(0, 1), "5", true), low(by(0, 1), "1", true), high(by(0, 1), "1", true), low(by(0, 1), "1", false), low(by(0, 0), "6", true), high(by(0, 0), "6", true),
		low(by(0, 1, "2"), "2", false), low(by(0, 1, "1"), "zz", false), by(0, 1, ":zz"),
		{Key: 1, Same: []api.Expr{{}}}, {Key: 1, Same: []api.Expr{{Op: "zz"}}},
	} {
		isNone(t, c, s, a)
	}
	// Where it stands plays no part, nor what its Op does not name.
	a := by(0, 1, "1")
	a.Same[0].At, a.Same[0].Name, a.Same[0].Value.Text = 99, "x", "x"
	isPlan(t, c, s, a)
	// Of an end that is none nothing plays a part.
	a = by(0, 1, "1")
	a.Low, a.High = api.Expr{Name: "x", Parts: exs("1")}, api.Expr{At: 5}
	isPlan(t, c, s, a)
	b := all(0)
	b.Low, b.High = a.Low, a.High
	isPlan(t, c, s, b)
}

// P15.3: what binds in a plan hangs on what that plan goes through ahead.
func TestAheadInThisPlan(t *testing.T) {
	c := made(t, tables)
	const s = "SELECT t.a FROM t JOIN u ON u.a = t.b AND t.d = u.d AND u.d >= t.a AND t.a = u.a + u.g WHERE t.a > 3"
	isPlan(t, c, s, all(0), by(1, 0, "t.b"))
	isNone(t, c, s, by(1, 0, "t.b"), all(0))
	isPlan(t, c, s, by(1, 0), all(0))
	isPlan(t, c, s, all(1), by(0, 2, "u.d"))
	isNone(t, c, s, by(0, 2, "u.d"), all(1))
	isPlan(t, c, s, all(1), by(0, 1, "u.a"))
	isPlan(t, c, s, all(0), by(1, 1, "t.d"))
	isPlan(t, c, s, all(0), low(by(1, 1), "t.a", true))
	isNone(t, c, s, all(0), low(by(1, 1), "t.a", false))
	isNone(t, c, s, low(by(1, 1), "t.a", true), all(0))
	isPlan(t, c, s, all(1), by(0, 0, "u.a + u.g"))
	isNone(t, c, s, by(0, 0, "u.a + u.g"), all(1))
	isPlan(t, c, s, low(by(0, 0), "3", false), by(1, 0, "t.b"))
	isPlan(t, c, s, all(1), low(by(0, 0), "3", false))
	isNone(t, c, s, all(0), by(1, 0, "b"))
	isNone(t, c, s, all(0), by(1, 1, "t.a"))
	// t.a is BigInt, u.d a Dec: of t.a it is no other side.
	isNone(t, c, s, all(1), high(by(0, 0), "u.d", true))
	// Each From has its own ones, if two are of one table.
	const w = "SELECT x.a FROM u AS x JOIN u AS y ON x.a = 1 AND y.a = 2 AND x.g = y.a"
	isPlan(t, c, w, by(0, 0, "1"), by(1, 0, "2"))
	isPlan(t, c, w, by(1, 0, "2"), by(0, 0, "1"))
	isNone(t, c, w, by(0, 0, "2"), by(1, 0, "2"))
	isNone(t, c, w, by(0, 0, "1"), by(1, 0, "1"))
	isPlan(t, c, w, by(0, 0, "1"), by(1, 0, "x.g"))
	isNone(t, c, w, by(0, 0, "1"), by(1, 0, "y.g"))
	isNone(t, c, w, by(1, 0, "x.g"), by(0, 0, "1"))
	// Of the first From the On plays no part.
	x := stmt(t, "SELECT a FROM t WHERE b = 1")
	x.From[0].On = ex("a = 1")
	if why := plan.Check(c, api.Plan{Stmt: x, Access: []api.Access{by(0, 0, "1")}}, nil); why != api.ErrPlan {
		t.Error(why)
	}
	if p, why := plan.Make(c, x, nil); why != api.OK || show(p.Access) != show([]api.Access{{Key: 1, Same: []api.Expr{x.Where.Parts[1]}}}) {
		t.Error(p, why)
	}
}

// P15.3: plans other than Make's, which are ones.
func TestOtherPlans(t *testing.T) {
	c := made(t, tables)
	const s = "SELECT t.a FROM t JOIN u ON t.s = u.s WHERE t.s = 'x' AND t.f = TRUE AND t.b = 3 AND t.b = 4 AND t.b > 5 AND t.a >= 6 AND u.a = 7 AND u.a < 8"
	for _, l := range [][]api.Access{
		{by(1, 0, "7"), by(0, 3, "'x'", "TRUE", "3")},
		{by(1, 0, "7"), by(0, 3, "'x'", "TRUE", "4")},
		{by(1, 0, "7"), by(0, 3, "'x'", "TRUE")},
		{by(1, 0, "7"), low(by(0, 3, "'x'", "TRUE"), "5", false)},
		{by(1, 0, "7"), by(0, 3, "'x'")},
		{by(1, 0, "7"), by(0, 3, "u.s", "TRUE", "3")},
		{by(1, 0, "7"), by(0, 3)},
		{by(1, 0, "7"), by(0, 1, "3")},
		{by(1, 0, "7"), low(by(0, 1), "5", false)},
		{by(1, 0, "7"), low(by(0, 0), "6", true)},
		{by(1, 0, "7"), by(0, 0)},
		{by(1, 0, "7"), by(0, 2)},
		{by(1, 0, "7"), all(0)},
		{by(0, 3, "'x'", "TRUE", "3"), high(by(1, 0), "8", false)},
		{by(0, 3, "'x'"), by(1, 0, "7")},
		{all(0), all(1)},
		{by(1, 1), by(0, 2)},
	} {
		isPlan(t, c, s, l...)
	}
	isNone(t, c, s, by(0, 3, "u.s"), all(1))
	p := planOf(t, c, s)
	if q, _ := plan.Print(c, p); q != "u primary a = 7\nt m s = u.s f = TRUE b = 3\n" {
		t.Error(q)
	}
}

// P15.3: the statement is looked at ahead of the accesses, and no catalog ahead of both; expressions of any size come to an end.
func TestCheckEnds(t *testing.T) {
	c := made(t, tables)
	const s = "SELECT a FROM t WHERE a = 1 AND b = - - - 1"
	long := api.Expr{Op: "value", Value: num(1)}
	for range 60000 {
		long = api.Expr{Op: "neg", Parts: []api.Expr{long}}
	}
	wide := api.Expr{Op: "in", Parts: make([]api.Expr, 1<<20)}
	for _, e := range []api.Expr{long, wide, {Op: "value", Value: api.Value{Type: 9}}, {Op: "value", Value: text("\xff")}, {Op: "column"}} {
		isNone(t, c, s, api.Access{Key: 0, Same: []api.Expr{e}})
		isNone(t, c, s, api.Access{Key: 1, Same: []api.Expr{e}})
		isNone(t, c, s, api.Access{Key: 0, Low: e})
		isNone(t, c, s, api.Access{Key: 0, High: e})
		if q, why := plan.Print(c, api.Plan{Stmt: stmt(t, s), Access: []api.Access{{Key: 0, Same: []api.Expr{e}}}}); q != "" || why != api.ErrArg {
			t.Errorf("%q %v", short(q), why)
		}
	}
	isNone(t, c, s, make([]api.Access, 1<<20)...)
	isNone(t, c, s, api.Access{Key: 0, Same: make([]api.Expr, 1<<20)})
}
