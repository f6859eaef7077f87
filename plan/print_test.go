package plan_test

import (
	"testing"

	"lockstep/api"
	"lockstep/catalog"
	"lockstep/plan"
)

func prints(t *testing.T, c *catalog.Catalog, s, want string, l ...api.Access) {
	t.Helper()
	got, why := plan.Print(c, api.Plan{Stmt: stmt(t, s), Access: l})
	if got != want || why != api.OK {
		t.Errorf("%s by %+v: %q %v, not %q", s, l, got, why, want)
	}
}

// hasNoText checks that a plan has none.
func hasNoText(t *testing.T, c *catalog.Catalog, x api.Stmt, l ...api.Access) {
	t.Helper()
	if got, why := plan.Print(c, api.Plan{Stmt: x, Access: l}); got != "" || why != api.ErrArg {
		t.Errorf("%+v by %+v: %q %v", x, l, got, why)
	}
}

// P15.4: a line for each Access, as it stands: whether it is a plan or not.
func TestPrint(t *testing.T) {
	c := made(t, tables)
	const one, two = "SELECT a FROM t", "SELECT x.a FROM t AS x JOIN u ON TRUE"
	prints(t, c, one, "t all\n", all(0))
	prints(t, c, one, "")
	prints(t, c, one, "t all\nt all\n", all(0), all(0))
	prints(t, c, one, "t primary\n", by(0, 0))
	prints(t, c, one, "t i\nt j\nt m\n", by(0, 1), by(0, 2), by(0, 3))
	prints(t, c, one, "t m s = 1 f = 2 b = 3\n", by(0, 3, "1", "2", "3"))
	prints(t, c, one, "t m s = 1 f > 2\n", low(by(0, 3, "1"), "2", false))
	prints(t, c, one, "t m s = 1 f >= 2\n", low(by(0, 3, "1"), "2", true))
	prints(t, c, one, "t m s < 2\n", high(by(0, 3), "2", false))
	prints(t, c, one, "t m s <= 2\n", high(by(0, 3), "2", true))
	for in := range 4 {
		want := "t i b = 1 c " + []string{">", ">="}[in&1] + " 2 c " + []string{"<", "<="}[in>>1] + " 3\n"
		prints(t, c, one, want, high(low(by(0, 1, "1"), "2", in&1 == 1), "3", in>>1 == 1))
	}
	prints(t, c, two, "x primary a = u.a\nu k d = 1.5\n", by(0, 0, "u.a"), by(1, 1, "1.5"))
	prints(t, c, two, "u all\nx all\n", all(1), all(0))
	prints(t, c, two, "u primary a = u.a + 1\n", by(1, 0, "u.a + 1"))
	prints(t, c, two, "u k d = a = 1 OR NOT f IS NOT NULL\n", by(1, 1, "a = 1 or not not f is null"))
	prints(t, c, two, "u k d = (1 + 2) * - 3\n", by(1, 1, "(1+2)*-3"))
	prints(t, c, "DELETE FROM t", "t primary a = 1\n", by(0, 0, "1"))
	prints(t, c, "UPDATE u SET a = 1", "u k d > :q\n", low(by(0, 1), ":q", false))
	prints(t, c, "INSERT INTO t (a) VALUES (1)", "")
	// An end that is none is not written, whatever else is said of it.
	a := by(0, 1, "1")
	a.LowIn, a.HighIn, a.Low.Name = true, true, "x"
	prints(t, c, one, "t i b = 1\n", a)
	// A statement whose Scope is there has a text, even if it is none.
	prints(t, c, "SELECT z FROM t WHERE zz = 'x'", "t all\n", all(0))
	prints(t, c, "SELECT a FROM t WHERE a = :zz", "t primary a = :zz\n", by(0, 0, ":zz"))
	// Names are written as they are.
	c = made(t, `CREATE TABLE "T t" ("A a" BIGINT, "select" BIGINT, PRIMARY KEY ("select"), INDEX "I i" ("A a"), INDEX "all" ("A a"));`)
	prints(t, c, `SELECT "A a" FROM "T t"`, "T t I i A a = \"A a\"\n", by(0, 1, `"A a"`))
	prints(t, c, `SELECT "A a" FROM "T t" AS "from"`, "from primary select = \"from\".\"A a\"\n", by(0, 0, `"from"."A a"`))
	prints(t, c, `DELETE FROM "T t"`, "T t all\nT t all\n", all(0), by(0, 2))
}

// P15.4: what has no text.
func TestNoText(t *testing.T) {
	c := made(t, tables)
	one, two := stmt(t, "SELECT a FROM t"), stmt(t, "SELECT x.a FROM t AS x JOIN u ON TRUE")
	remove, change, insert := stmt(t, "DELETE FROM u"), stmt(t, "UPDATE u SET a = 1"), stmt(t, "INSERT INTO u (a) VALUES (1)")
	for _, x := range []api.Stmt{one, two, remove, change, insert, {}} {
		hasNoText(t, nil, x)
		hasNoText(t, nil, x, all(0))
	}
	// No Scope.
	for _, s := range []string{"SELECT a FROM z", "SELECT x.a FROM t AS x JOIN z ON TRUE", "DELETE FROM z", "UPDATE z SET a = 1", "INSERT INTO z (a) VALUES (1)"} {
		hasNoText(t, c, stmt(t, s))
		hasNoText(t, c, stmt(t, s), all(0))
	}
	hasNoText(t, c, api.Stmt{})
	hasNoText(t, c, api.Stmt{Kind: api.Delete})
	hasNoText(t, c, api.Stmt{Kind: 5, Table: "t"})
	bad := stmt(t, "DELETE FROM t WHERE a = 1")
	bad.Where.Parts = nil
	hasNoText(t, c, bad, all(0))
	// No From.
	for _, from := range []int{-1, 1, 4, 1 << 40, -1 << 63, 1<<63 - 1} {
		hasNoText(t, c, one, all(from))
		hasNoText(t, c, one, all(0), all(from))
		hasNoText(t, c, remove, all(from))
		hasNoText(t, c, change, all(from))
	}
	hasNoText(t, c, two, all(2))
	hasNoText(t, c, insert, all(0))
	hasNoText(t, c, insert, by(0, 0))
	hasNoText(t, c, insert, api.Access{From: -1, Key: -1})
	// No Key: t has four, u two.
	for _, key := range []int{-2, -1 << 63, 4, 5, 1<<63 - 1} {
		hasNoText(t, c, one, by(0, key))
		hasNoText(t, c, two, all(1), by(0, key))
	}
	hasNoText(t, c, two, by(1, 2))
	hasNoText(t, c, remove, by(0, 2))
	// Too many Same, a Low or a High without a further column.
	hasNoText(t, c, one, by(0, 0, "1", "2"))
	hasNoText(t, c, one, by(0, 1, "1", "2", "3"))
	hasNoText(t, c, one, by(0, -1, "1"))
	hasNoText(t, c, one, low(by(0, 0, "1"), "1", true))
	hasNoText(t, c, one, high(by(0, 0, "1"), "1", true))
	hasNoText(t, c, one, low(by(0, 1, "1", "2"), "1", false))
	hasNoText(t, c, one, high(by(0, 3, "1", "2", "3"), "1", false))
	hasNoText(t, c, one, low(all(0), "1", false))
	hasNoText(t, c, one, high(all(0), "1", false))
	// An expression that can't be written, wherever it stands.
	for _, e := range []api.Expr{{Op: "zz"}, {Op: "and", Parts: exs("1")}, {Op: "value", Value: num(-1)}, {Op: "value", Value: api.Value{Type: 7}}, {Op: "column"}, {Op: "param", Name: "A"}, {Op: "+", Parts: exs(deep(100), deep(50))}} {
		e = api.Expr{Op: "neg", Parts: []api.Expr{e}}
		hasNoText(t, c, one, api.Access{Key: 0, Same: []api.Expr{e}})
		hasNoText(t, c, one, api.Access{Key: 1, Same: []api.Expr{ex("1"), e}})
		hasNoText(t, c, one, api.Access{Key: 1, Same: []api.Expr{e, ex("1")}})
		hasNoText(t, c, one, api.Access{Key: 0, Low: e})
		hasNoText(t, c, one, api.Access{Key: 0, High: e})
		hasNoText(t, c, one, all(0), api.Access{Key: 0, Low: e, High: ex("1")}, all(0))
	}
	hasNoText(t, c, one, api.Access{Key: 0, Same: []api.Expr{{}}})
	hasNoText(t, c, one, api.Access{Key: 0, Same: []api.Expr{{Op: "value", Value: num(-1)}}})
}
