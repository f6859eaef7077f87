package detcheck_test

import (
	"fmt"
	"slices"
	"strings"
	"testing"

	"lockstep/api"
	"lockstep/detcheck"
)

// tables is of all types; t and u are partitioned, r stands whole.
const tables = `CREATE TABLE t (a BIGINT, b BIGINT, c BIGINT, d DECIMAL, s VARCHAR(9), f BOOLEAN, PRIMARY KEY (a)) PARTITION BY a;
CREATE TABLE u (a BIGINT, e BIGINT, d DECIMAL, s VARCHAR(9), PRIMARY KEY (a, e)) PARTITION BY e;
CREATE TABLE r (k BIGINT, v BIGINT, PRIMARY KEY (k));`

// The examples of the chapter.
func TestExamples(t *testing.T) {
	c := made(t, "CREATE TABLE t (a BIGINT, b BIGINT, PRIMARY KEY (a)) PARTITION BY a;")
	settles(t, c, "SELECT b FROM t ORDER BY b", false)
	settles(t, c, "SELECT a, b FROM t ORDER BY b, a", true)
	settles(t, c, "SELECT b FROM t WHERE a = :p", true)
	settles(t, c, "SELECT COUNT(*) FROM t", true)
	stays(t, c, "UPDATE t SET b = 0 WHERE a = :p", "p", true)
	stays(t, c, "DELETE FROM t", "p", false)
}

// P17.1, P17.2, P17.3: without a catalog all is ErrArg, whatever else is wrong.
func TestNil(t *testing.T) {
	for _, s := range []string{"SELECT a FROM t", "INSERT INTO t (a) VALUES (:p)", "UPDATE t SET b = 1", "DELETE FROM t WHERE a = :z"} {
		refuses(t, nil, stmt(t, s), theParams(), "p", api.ErrArg)
		refuses(t, nil, stmt(t, s), nil, "z", api.ErrArg)
	}
	refuses(t, nil, api.Stmt{}, nil, "", api.ErrArg)
	if step, why := detcheck.Proc(nil, "f"); step != 0 || why != api.ErrArg {
		t.Error(step, why)
	}
	if name, step, why := detcheck.All(nil); name != "" || step != 0 || why != api.ErrArg {
		t.Error(name, step, why)
	}
}

// P17.1, P17.2, P17.3: each error of Check is told, wherever it stands, also where what is fixed, settled or the same would be told of what is ahead of it.
func TestErrorsOfCheck(t *testing.T) {
	c := made(t, tables)
	for s, want := range map[string]api.Errno{
		"SELECT a FROM z":                                  api.ErrName,
		"SELECT z FROM t":                                  api.ErrName,
		"SELECT a FROM t JOIN u ON t.a = u.a":              api.ErrName,
		"SELECT t.b FROM t JOIN u ON v = 1 JOIN r ON TRUE": api.ErrName,
		"SELECT b FROM t WHERE a = :p ORDER BY a":          api.ErrName,
		"SELECT COUNT(*) FROM t ORDER BY z":                api.ErrName,
		"SELECT t.a FROM t JOIN t ON TRUE":                 api.ErrTable,
		"SELECT a, b AS a FROM t ORDER BY a":               api.ErrTable,
		"SELECT a FROM t WHERE a = 'x'":                    api.ErrType,
		"SELECT a FROM t WHERE a":                          api.ErrType,
		"SELECT SUM(s) FROM t":                             api.ErrType,
		"SELECT COUNT(*) FROM t LIMIT :q":                  api.ErrType,
		"SELECT a FROM t WHERE a = :z":                     api.ErrParam,
		"SELECT a, COUNT(*) FROM t":                        api.ErrGroup,
		"SELECT a FROM t GROUP BY b":                       api.ErrGroup,
		"SELECT a FROM t HAVING TRUE":                      api.ErrGroup,
		"SELECT a FROM t WHERE a = " + deep(64):            api.ErrLong,
		"INSERT INTO z (a) VALUES (:p)":                    api.ErrName,
		"INSERT INTO t (a, z) VALUES (:p, 1)":              api.ErrName,
		"INSERT INTO t (a, b) VALUES (:p)":                 api.ErrArg,
		"INSERT INTO t (a, a) VALUES (:p, :p)":             api.ErrTable,
		"INSERT INTO t (a, b) VALUES (:p, 'x')":            api.ErrType,
		"INSERT INTO t (a, b) VALUES (:p, :z)":             api.ErrParam,
		"INSERT INTO t (a, b) VALUES (:p, b)":              api.ErrName,
		"UPDATE z SET b = 1 WHERE a = :p":                  api.ErrName,
		"UPDATE t SET z = 1 WHERE a = :p":                  api.ErrName,
		"UPDATE t SET b = 1, b = 2 WHERE a = :p":           api.ErrTable,
		"UPDATE t SET a = 1 WHERE a = :p":                  api.ErrPart,
		"UPDATE t SET b = 'x' WHERE a = :p":                api.ErrType,
		"UPDATE t SET b = :z WHERE a = :p":                 api.ErrParam,
		"DELETE FROM z WHERE a = :p":                       api.ErrName,
		"DELETE FROM t WHERE a = :p AND z = 1":             api.ErrName,
		"DELETE FROM t WHERE a = :p AND b = :z":            api.ErrParam,
		"DELETE FROM t WHERE a = :p AND b":                 api.ErrType,
		"DELETE FROM t WHERE a = :p AND b IN (1, 'x')":     api.ErrType,
	} {
		x := stmt(t, s)
		if _, why := c.Check(x, theParams()); why != want {
			t.Fatalf("%s: %v, not %v", s, why, want)
		}
		refuses(t, c, x, theParams(), "p", want)
	}
}

// deep is a sum of so many expressions in one another.
func deep(n int) string { return "1" + strings.Repeat(" + 1", n) }

// P17.1, P17.2, P17.3: what can't be written, and params that can't be, are ErrArg.
func TestUnwritable(t *testing.T) {
	c := made(t, tables)
	endless := []api.Expr{{Op: "not"}}
	endless[0].Parts = endless
	sel, del := stmt(t, "SELECT a FROM t WHERE a = :p"), stmt(t, "DELETE FROM t WHERE a = :p")
	ins, upd := stmt(t, "INSERT INTO t (a) VALUES (:p)"), stmt(t, "UPDATE t SET b = 1 WHERE a = :p")
	for _, x := range []api.Stmt{
		{}, {Kind: 5, Table: "t"}, {Kind: -1}, {Kind: api.Select}, {Kind: api.Insert, Table: "t"}, {Kind: api.Update, Table: "t"}, {Kind: api.Delete},
		{Kind: api.Select, Items: sel.Items}, {Kind: api.Select, From: sel.From}, {Kind: api.Select, Items: sel.Items, From: slices.Repeat(sel.From, 5)},
		{Kind: api.Delete, Table: "t", Where: api.Expr{Op: "="}}, {Kind: api.Delete, Table: "t", Where: api.Expr{Op: "zz"}}, {Kind: api.Delete, Table: "t", Where: endless[0]},
		{Kind: api.Select, Items: sel.Items, From: []api.From{sel.From[0], {Table: "r", As: "r"}}},
		{Kind: api.Select, Items: sel.Items, From: sel.From, Group: endless}, {Kind: api.Select, Items: sel.Items, From: sel.From, Order: []api.Order{{}}},
		{Kind: api.Insert, Table: "t", Cols: ins.Cols, Values: endless}, {Kind: api.Update, Table: "t", Sets: []api.Set{{Name: "b", Expr: endless[0]}}},
	} {
		refuses(t, c, x, theParams(), "p", api.ErrArg)
	}
	for _, x := range []api.Stmt{sel, del, ins, upd} {
		for _, params := range [][]api.Col{
			{col("p", 0)}, {col("p", 5)}, {col("p", -1)}, {col("p", api.BigInt), col("q", 0)}, {col("p", api.BigInt), col("p", api.BigInt)}, {col("p", api.BigInt), col("q", api.Text), col("q", api.Bool)},
		} {
			refuses(t, c, x, params, "p", api.ErrArg)
		}
		refuses(t, c, x, []api.Col{col("q", api.BigInt)}, "q", api.ErrParam)
	}
}

// P17.1: an INSERT has no scope.
func TestFixedOfInserts(t *testing.T) {
	c := made(t, tables)
	for _, s := range []string{"INSERT INTO t (a) VALUES (:p)", "INSERT INTO t (a, b) VALUES (1, :p)", "INSERT INTO r (v) VALUES (NULL)"} {
		fixes(t, c, s, "")
		x := stmt(t, s)
		x.Where = ex("a = 1 AND k = 1")
		if l, why := detcheck.Fixed(c, x, theParams()); len(l) != 0 || why != api.OK {
			t.Error(s, l, why)
		}
	}
}

// P17.1: a column stands on either side; the other one names none.
func TestFixedBySides(t *testing.T) {
	c := made(t, tables)
	for _, e := range []string{"1", ":p", "- 1", ":p + 1", "NULL", "1.5", ":q", "LENGTH(:r)", "CASE WHEN :f THEN 1 ELSE 1 / 0 END", "COALESCE(:p, 1)", "CAST('x' AS BIGINT)"} {
		for _, s := range []string{"a = " + e, e + " = a", "t.a = " + e, e + " = t.a", "TRUE AND a = " + e, "(b > 1 AND " + e + " = a) AND c < 1"} {
			fixes(t, c, "SELECT b FROM t WHERE "+s, "t.a")
			fixes(t, c, "DELETE FROM t WHERE "+s, "t.a")
			fixes(t, c, "UPDATE t SET b = a WHERE "+s, "t.a")
		}
	}
	fixes(t, c, "SELECT b FROM t WHERE d = 1 AND s = :r || 'x' AND f = (:p = 1) AND NULL = c", "t.c t.d t.s t.f")
	fixes(t, c, "SELECT b FROM t WHERE b = 1 AND a = 1", "t.a t.b")
	fixes(t, c, "SELECT x.a FROM t AS x WHERE x.a = 1 AND s = ''", "x.a x.s")
	for _, s := range []string{
		"SELECT b FROM t", "DELETE FROM t", "UPDATE t SET b = 1", "SELECT b FROM t WHERE TRUE",
		"SELECT COUNT(*) FROM t GROUP BY b HAVING 1 = 1", "SELECT b FROM t WHERE f", "SELECT b FROM t WHERE 1 = 1", "SELECT b FROM t WHERE :p = 1 AND NULL",
		"SELECT a AS b FROM t WHERE a > 1 ORDER BY b LIMIT 1", "SELECT MAX(a) AS a FROM t GROUP BY b HAVING a = 1", "UPDATE t SET b = 1, c = :p WHERE a > 1",
	} {
		fixes(t, c, s, "")
	}
}

// P17.1: a condition is a Part, and =: within anything else it says nothing, and so does what is more than a column.
func TestNoConditions(t *testing.T) {
	c := made(t, tables)
	for _, s := range []string{
		"a = 1 OR b = 1", "a = 1 OR a = 1", "a = 1 OR FALSE", "NOT a = 1", "NOT NOT a = 1", "NOT a <> 1", "(a = 1) = TRUE", "TRUE = (a = 1)", "CASE WHEN TRUE THEN a = 1 ELSE FALSE END", "CASE WHEN a = 1 THEN TRUE ELSE a = 2 END",
		"COALESCE(a = 1, FALSE)", "(a = 1) IS NOT NULL", "(a = 1) IS NULL", "a IN (1)", "1 IN (a)", "a <> 1", "a < 1", "a <= 1 AND a >= 1", "a > 1", "1 >= a", "a IS NULL", "s LIKE 'x'", "'x' LIKE s", "f", "NOT f",
		"a + 0 = 1", "- a = 1", "CAST(a AS BIGINT) = 1", "COALESCE(a, a) = 1", "LENGTH(s) = 1", "s || '' = 'x'", "(f AND f) = TRUE", "1 = a + b",
		"a = b", "a = a", "a = b + 1", "a = a + 1", "a = LENGTH(s)", "a = b * 0", "a = CASE WHEN f THEN 1 ELSE 1 END", "d = a", "f = (a = 1)", "f = (f = TRUE)", "NOT (a = 1 AND b = 1)", "(a = 1 AND b = 1) OR FALSE",
	} {
		for _, other := range []string{"", " AND TRUE", " AND :p = 1"} {
			fixes(t, c, "SELECT b FROM t WHERE "+s+other, "")
			fixes(t, c, "DELETE FROM t WHERE "+s+other, "")
		}
		fixes(t, c, "SELECT v FROM r JOIN t ON "+s, "")
	}
	fixes(t, c, "SELECT b FROM t WHERE f = (a = 1) AND a = 1", "t.a")
	fixes(t, c, "SELECT b FROM t WHERE b = 1 AND a = b + 0", "t.b")
}

// P17.1: what is fixed goes on by conditions between columns, whatever their types and order; in a ring nothing begins.
func TestFixedInRows(t *testing.T) {
	c := made(t, tables)
	fixes(t, c, "SELECT b FROM t WHERE a = b AND b = 1", "t.a t.b")
	fixes(t, c, "SELECT b FROM t WHERE b = 1 AND b = a", "t.a t.b")
	fixes(t, c, "SELECT b FROM t WHERE a = b AND b = c", "")
	fixes(t, c, "SELECT b FROM t WHERE a = b AND b = c AND c = a", "")
	fixes(t, c, "SELECT b FROM t WHERE a = b AND b = c AND c = a AND :p = b", "t.a t.b t.c")
	fixes(t, c, "DELETE FROM t WHERE a = b AND b = d AND d = 1.5", "t.a t.b t.d")
	fixes(t, c, "UPDATE t SET c = 1 WHERE d = b AND d = 1 AND a > b", "t.b t.d")
	fixes(t, c, "SELECT b FROM t WHERE a = a AND b = 1", "t.b")
	fixes(t, c, "SELECT b FROM t WHERE a = a AND a = 1", "t.a")
	var cols, ring []string
	for i := range api.MaxCols {
		cols = append(cols, fmt.Sprintf("c%d BIGINT", i))
		ring = append(ring, fmt.Sprintf("c%d = c%d", i, (i+1)%api.MaxCols))
	}
	wide := made(t, "CREATE TABLE w ("+strings.Join(cols, ", ")+", PRIMARY KEY (c0));")
	row, all := ring[:15], "w.c0 w.c1 w.c2 w.c3 w.c4 w.c5 w.c6 w.c7 w.c8 w.c9 w.c10 w.c11 w.c12 w.c13 w.c14 w.c15"
	back := slices.Clone(row)
	slices.Reverse(back)
	for _, l := range [][]string{row, back, ring} {
		s := "SELECT c1 FROM w WHERE " + strings.Join(l, " AND ")
		fixes(t, wide, s, "")
		for _, begin := range []string{"c0 = 1", ":p = c15", "c7 = NULL"} {
			fixes(t, wide, s+" AND "+begin, all)
			fixes(t, wide, "DELETE FROM w WHERE "+begin+" AND "+strings.Join(l, " AND "), all)
		}
	}
	cut := slices.Concat(row[:7], row[8:])
	fixes(t, wide, "SELECT c1 FROM w WHERE c3 = 1 AND "+strings.Join(cut, " AND "), "w.c0 w.c1 w.c2 w.c3 w.c4 w.c5 w.c6 w.c7")
	fixes(t, wide, "SELECT c1 FROM w WHERE "+strings.Join(cut, " AND ")+" AND c15 = 1", "w.c8 w.c9 w.c10 w.c11 w.c12 w.c13 w.c14 w.c15")
}

// P17.1: all Ons and the Where, over all Froms; the same table twice is two.
func TestFixedOverFroms(t *testing.T) {
	c := made(t, tables)
	fixes(t, c, "SELECT k FROM t JOIN r ON k = 1", "r.k")
	fixes(t, c, "SELECT k FROM t JOIN r ON b = 1", "t.b")
	fixes(t, c, "SELECT k FROM t JOIN r ON TRUE WHERE b = 1", "t.b")
	fixes(t, c, "SELECT k FROM t JOIN r ON v = :p AND f WHERE b = 1", "t.b r.v")
	fixes(t, c, "SELECT k FROM t JOIN r ON k = a WHERE v = b AND v = 1", "t.b r.v")
	fixes(t, c, "SELECT k FROM t JOIN r ON k = a JOIN u ON u.a = k AND e = 3", "u.e")
	fixes(t, c, "SELECT k FROM t JOIN r ON k = t.a JOIN u ON u.a = k WHERE u.a = 3", "t.a r.k u.a")
	fixes(t, c, "SELECT k FROM t JOIN r ON k = t.a JOIN u ON u.a = k AND t.a = 3", "t.a r.k u.a")
	fixes(t, c, "SELECT x.a FROM t JOIN t AS x ON x.a = t.b WHERE t.b = 1", "t.b x.a")
	fixes(t, c, "SELECT x.a FROM t JOIN t AS x ON x.a = 1", "x.a")
	fixes(t, c, "SELECT x.a FROM t JOIN t AS x ON t.a = 1 JOIN t AS y ON y.a = x.b AND x.b = y.c AND y.c = 2", "t.a x.b y.a y.c")
	fixes(t, c, "SELECT w.a FROM t AS w JOIN t AS x ON w.a = x.a JOIN t AS y ON x.b = y.b JOIN t AS z ON y.a = z.a AND x.a = y.b WHERE z.f = TRUE AND x.b = 1", "w.a x.a x.b y.b z.f")
	for i, of := range []string{"w", "x", "y", "z"} {
		x := stmt(t, "SELECT w.a FROM t AS w JOIN t AS x ON TRUE JOIN t AS y ON TRUE JOIN t AS z ON TRUE WHERE "+of+".c = 1")
		if l, why := detcheck.Fixed(c, x, nil); why != api.OK || !slices.Equal(l, []int{6*i + 2}) {
			t.Error(of, l, why)
		}
	}
}

// P17.1: a name in an On means what it means beside the Froms up to its own, also where it would mean nothing beside all of them.
func TestNamesOfOns(t *testing.T) {
	c := made(t, tables)
	fixes(t, c, "SELECT k FROM t JOIN r ON s = 'x' JOIN u ON TRUE", "t.s")
	fixes(t, c, "SELECT k FROM r JOIN t ON a = v AND s = 'x' JOIN u ON r.v = 1", "r.v t.a t.s")
	fixes(t, c, "SELECT k FROM r JOIN u ON a = k AND d = 2 JOIN t ON t.d = u.d WHERE k = 1", "r.k u.a u.d t.d")
	fixes(t, c, "SELECT x.k FROM r AS x JOIN t ON k = 1 AND v = 2 JOIN r ON TRUE", "x.k x.v")
}

// P17.1: the On of the first From plays no part, nor does what else a statement holds that its kind does not name.
func TestWhatPlaysNoPart(t *testing.T) {
	c := made(t, tables)
	endless := []api.Expr{{Op: "and"}}
	endless[0].Parts = slices.Repeat(endless, 2)
	endless[0].Parts[0].Parts = endless[0].Parts
	endless[0].Parts[1].Parts = endless[0].Parts
	none := api.Expr{Parts: endless}
	for _, on := range []api.Expr{ex("b = 1"), endless[0], none} {
		x := stmt(t, "SELECT a, COUNT(*) AS n FROM t JOIN r ON k = 1 GROUP BY a ORDER BY a")
		x.From[0].On, x.Items[1].Expr, x.Where, x.Having, x.Limit = on, on, none, none, none
		x.Table, x.Cols, x.Values, x.Sets = "zz", []string{"zz"}, endless, []api.Set{{Name: "zz", Expr: on}}
		l, why := detcheck.Fixed(c, x, theParams())
		is, also := detcheck.Settled(c, x, theParams())
		single, third := detcheck.Single(c, x, theParams(), "p")
		if !slices.Equal(l, []int{6}) || why != api.OK || !is || also != api.OK || single || third != api.OK {
			t.Errorf("%v %v, %v %v, %v %v", l, why, is, also, single, third)
		}
	}
	x := stmt(t, "DELETE FROM t")
	x.Where, x.From, x.Group, x.Items, x.Distinct = none, []api.From{{Table: "r", As: "r", On: endless[0]}}, endless, []api.Item{{Expr: endless[0]}}, true
	x.Order = []api.Order{{Name: "zz"}}
	l, why := detcheck.Fixed(c, x, theParams())
	is, also := detcheck.Settled(c, x, theParams())
	single, third := detcheck.Single(c, x, theParams(), "p")
	if len(l) != 0 || why != api.OK || !is || also != api.OK || single || third != api.OK {
		t.Errorf("%v %v, %v %v, %v %v", l, why, is, also, single, third)
	}
}

// P17.1: all sets of conditions between four columns, and between these and what names none, in two orders; held against what can be reached.
func TestAllSetsOfConditions(t *testing.T) {
	c := made(t, "CREATE TABLE t (a BIGINT, b BIGINT, c BIGINT, d BIGINT, PRIMARY KEY (a));")
	sides := []string{"a", "b", "c", "d", ":p"}
	var pairs [][2]int
	for i := range sides {
		for j := range i {
			pairs = append(pairs, [2]int{i, j})
		}
	}
	for set := range 1 << len(pairs) {
		var conds []string
		near := [5][5]bool{}
		for n, p := range pairs {
			if set>>n&1 == 0 {
				continue
			}
			l, r := sides[p[n%2]], sides[p[1-n%2]]
			conds = append(conds, l+" = "+r)
			near[p[0]][p[1]], near[p[1]][p[0]] = true, true
		}
		if len(conds) == 0 {
			continue
		}
		for k := range sides {
			for i := range sides {
				for j := range sides {
					near[i][j] = near[i][j] || near[i][k] && near[k][j]
				}
			}
		}
		var want []string
		for i := range 4 {
			if near[i][4] {
				want = append(want, "t."+sides[i])
			}
		}
		for range 2 {
			fixes(t, c, "DELETE FROM t WHERE "+strings.Join(conds, " AND "), strings.Join(want, " "))
			slices.Reverse(conds)
		}
	}
}
