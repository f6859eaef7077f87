package plan_test

import (
	"fmt"
	"slices"
	"strings"
	"testing"

	"lockstep/api"
	"lockstep/catalog"
	"lockstep/plan"
)

// several is tables with keys of each kind.
const several = `CREATE TABLE t (a BIGINT, b BIGINT, c BIGINT, d BIGINT, e BIGINT, PRIMARY KEY (a), UNIQUE k (b, c), INDEX i (d, e, b), INDEX j (e));`

// P15.2: first those with all columns of a Unique key, then the most Same, then a Low or a High, then the order.
func TestWhichComesNext(t *testing.T) {
	c := made(t, several)
	// Each of these is better than all that stand behind it in the list.
	ranks := []struct{ where, want string }{
		{"x.b = 1 AND x.c = 2", "k b = 1 c = 2"},
		{"x.a = 1", "primary a = 1"},
		{"x.d = 1 AND x.e = 2 AND x.b = 3", "i d = 1 e = 2 b = 3"},
		{"x.d = 1 AND x.e = 2 AND x.b > 3", "i d = 1 e = 2 b > 3"},
		{"x.d = 1 AND x.e = 2", "i d = 1 e = 2"},
		{"x.b = 1 AND x.c < 2", "k b = 1 c < 2"},
		{"x.b = 1", "k b = 1"},
		{"x.a >= 1", "primary a >= 1"},
		{"TRUE", "all"},
	}
	for i := range ranks {
		for k := range ranks {
			for l := range ranks {
				at := []int{i, k, l}
				var where []string
				for n, r := range at {
					where = append(where, strings.ReplaceAll(ranks[r].where, "x.", fmt.Sprintf("x%d.", n)))
				}
				order := []int{0, 1, 2}
				slices.SortStableFunc(order, func(a, b int) int { return at[a] - at[b] })
				want := ""
				for _, n := range order {
					want += fmt.Sprintf("x%d %s\n", n, ranks[at[n]].want)
				}
				plans(t, c, "SELECT 1 FROM t AS x0 JOIN t AS x1 ON TRUE JOIN t AS x2 ON TRUE WHERE "+strings.Join(where, " AND "), want)
			}
		}
	}
	// One end is as good as the other one, or as both.
	for _, s := range []string{"a > 1", "a >= 1", "a < 1", "a <= 1"} {
		plans(t, c, "SELECT 1 FROM t AS x JOIN t AS y ON x."+s+" AND y.a > 0 AND y.a < 2", "x primary "+s+"\ny primary a > 0 a < 2\n")
		plans(t, c, "SELECT 1 FROM t AS x JOIN t AS y ON y."+s+" AND x.a > 0 AND x.a < 2", "x primary a > 0 a < 2\ny primary "+s+"\n")
		plans(t, c, "SELECT 1 FROM t AS x JOIN t AS y ON y."+s, "y primary "+s+"\nx all\n")
	}
	// A key that is not Unique is not whole, however many of its columns are bound; one that is must be the key gone by.
	plans(t, c, "SELECT 1 FROM t AS x JOIN t AS y ON x.e = 1 AND y.b = 1", "x j e = 1\ny k b = 1\n")
	plans(t, c, "SELECT 1 FROM t AS x JOIN t AS y ON x.e = 1 AND y.a = 1", "y primary a = 1\nx j e = 1\n")
	c = made(t, `CREATE TABLE t (a BIGINT, b BIGINT, PRIMARY KEY (a), INDEX i (a, b));`)
	plans(t, c, "SELECT 1 FROM t AS x JOIN t AS y ON x.a = 1 AND x.b = 1 AND y.a = 1", "y primary a = 1\nx i a = 1 b = 1\n")
}

// P15.2: what was gone through binds what comes behind it, From by From.
func TestChains(t *testing.T) {
	c := made(t, several+`CREATE TABLE u (a BIGINT, b BIGINT, PRIMARY KEY (a), INDEX i (b));`)
	for s, want := range map[string]string{
		"u AS x JOIN u AS y ON x.a = y.b JOIN u AS z ON y.a = z.b WHERE z.a = 1":                           "z primary a = 1\ny primary a = z.b\nx primary a = y.b\n",
		"u AS x JOIN u AS y ON y.a = x.b JOIN u AS z ON z.a = y.b WHERE x.a = 1":                           "x primary a = 1\ny primary a = x.b\nz primary a = y.b\n",
		"u AS x JOIN u AS y ON x.b = y.b JOIN u AS z ON y.a = z.a":                                         "x all\ny i b = x.b\nz primary a = y.a\n",
		"u AS x JOIN u AS y ON x.b = y.b JOIN u AS z ON x.a = z.a":                                         "x all\nz primary a = x.a\ny i b = x.b\n",
		"u AS x JOIN u AS y ON TRUE JOIN u AS z ON x.a = y.a + z.a":                                        "x all\ny all\nz all\n",
		"u AS x JOIN u AS y ON TRUE JOIN u AS z ON z.a = y.a + x.a":                                        "x all\ny all\nz primary a = y.a + x.a\n",
		"u AS x JOIN u AS y ON TRUE JOIN u AS z ON x.a = y.a + z.a WHERE z.a = 1 AND y.b = 2":              "z primary a = 1\ny i b = 2\nx primary a = y.a + z.a\n",
		"u AS x JOIN u AS y ON y.a = x.a JOIN u AS z ON z.a = y.a JOIN u AS w ON w.a = z.a WHERE w.b = 2":  "w i b = 2\nz primary a = w.a\ny primary a = z.a\nx primary a = y.a\n",
		"u AS x JOIN u AS y ON y.a > x.a JOIN u AS z ON z.b = y.a JOIN u AS w ON w.a = z.a AND w.a = y.b":  "x all\ny primary a > x.a\nw primary a = y.b\nz primary a = w.a\n",
		"u AS x JOIN u AS y ON y.a > x.a JOIN u AS z ON z.b = y.a JOIN u AS w ON w.a = y.b AND w.a = z.a":  "x all\ny primary a > x.a\nw primary a = y.b\nz primary a = w.a\n",
		"u AS x JOIN u AS y ON x.a = y.a":                                                                  "x all\ny primary a = x.a\n",
		"u JOIN t ON u.a = t.a":                                                                            "u all\nt primary a = u.a\n",
		"t JOIN u ON t.a = u.a":                                                                            "t all\nu primary a = t.a\n",
		"t JOIN u ON t.b = u.a AND t.c = u.b WHERE u.b > 0":                                                "u i b > 0\nt k b = u.a c = u.b\n",
		"t JOIN u ON t.d = u.a AND t.e = 4 AND t.b >= u.b AND t.b < u.a WHERE t.c <= 3 AND u.a = 1":        "u primary a = 1\nt i d = u.a e = 4 b >= u.b b < u.a\n",
		"t JOIN u ON t.d = u.a AND t.e = 4 AND t.b >= u.b AND t.b < u.a WHERE t.c <= 3 AND u.a = t.a":      "t j e = 4\nu primary a = t.d\n",
		"t JOIN t AS s ON s.a = t.b JOIN t AS r ON r.a = s.b JOIN t AS q ON q.b = r.b AND q.c = s.c":       "t all\ns primary a = t.b\nr primary a = s.b\nq k b = r.b c = s.c\n",
		"t JOIN t AS s ON s.a = t.b JOIN t AS r ON r.b = s.b JOIN t AS q ON q.b = r.b AND q.a = s.c + r.a": "t all\ns primary a = t.b\nr k b = s.b\nq primary a = s.c + r.a\n",
	} {
		plans(t, c, "SELECT 1 FROM "+s, want)
	}
}

// P15.1: a name that is one alone beside its own On's tables alone, and not beside all of them, means nothing in a plan: on neither side.
func TestNamesBesideTheWhole(t *testing.T) {
	c := made(t, `CREATE TABLE t (a BIGINT, b BIGINT, PRIMARY KEY (a)); CREATE TABLE u (c BIGINT, d BIGINT, PRIMARY KEY (c), INDEX i (d));`)
	plans(t, c, "SELECT 1 FROM t JOIN u ON d = 1", "u i d = 1\nt all\n")
	plans(t, c, "SELECT 1 FROM t JOIN u ON d = 1 JOIN u AS v ON TRUE", "t all\nu all\nv all\n")
	plans(t, c, "SELECT 1 FROM t JOIN u ON u.d = 1 JOIN u AS v ON TRUE", "u i d = 1\nt all\nv all\n")
	plans(t, c, "SELECT 1 FROM t JOIN u ON a = c WHERE u.d = 1", "u i d = 1\nt primary a = c\n")
	plans(t, c, "SELECT 1 FROM t JOIN u ON a = c JOIN u AS v ON TRUE WHERE u.d = 1", "u i d = 1\nt all\nv all\n")
	plans(t, c, "SELECT 1 FROM t JOIN u ON a = u.c JOIN u AS v ON TRUE WHERE u.d = 1", "u i d = 1\nt primary a = u.c\nv all\n")
	plans(t, c, "SELECT 1 FROM t JOIN u ON a = 1 + d AND a = 7 JOIN u AS v ON TRUE", "t primary a = 7\nu all\nv all\n")
}

// P15.1: of an UPDATE and a DELETE the table, of an INSERT nothing; a SELECT's other clauses play no part.
func TestKinds(t *testing.T) {
	c := made(t, tables)
	for s, want := range map[string]string{
		"INSERT INTO t (a) VALUES (1)":                               "",
		"INSERT INTO u (a, d, g, s) VALUES (:p, :q, 1 + 1, 'a = 1')": "",
		"DELETE FROM t":                           "t all\n",
		"DELETE FROM u WHERE u.a = :p":            "u primary a = :p\n",
		"DELETE FROM u WHERE d <= :q AND :p <= d": "u k d >= :p d <= :q\n",
		"UPDATE t SET b = 1":                      "t all\n",
		"UPDATE t SET a = a + 1, b = 2 WHERE b = 3 AND c > 4 AND a > 5": "t i b = 3 c > 4\n",
		"UPDATE u SET a = 1 WHERE d = 1":                                "u k d = 1\n",
		"SELECT DISTINCT a = 1 AS x FROM t ORDER BY x LIMIT 1":          "t all\n",
		"SELECT COUNT(*), a FROM t GROUP BY a HAVING a = 1":             "t all\n",
		"SELECT a FROM t WHERE a = 1 ORDER BY a DESC LIMIT :p":          "t primary a = 1\n",
		"SELECT SUM(a) AS x FROM t AS z WHERE z.a < 1 HAVING x = 1":     "z primary a < 1\n",
	} {
		plans(t, c, s, want)
	}
	p := planOf(t, c, "INSERT INTO t (a) VALUES (1)")
	if len(p.Access) != 0 {
		t.Error(p.Access)
	}
	for _, s := range []string{"DELETE FROM t", "UPDATE t SET b = 1", "SELECT a FROM t"} {
		if p := planOf(t, c, s); len(p.Access) != 1 || show(p.Access[0]) != show(api.Access{Key: -1}) {
			t.Errorf("%s: %+v", s, p.Access)
		}
	}
}

// P15.3: Make and Check refuse nothing but no catalog, and what the catalog refuses, with its error.
func TestRefusedStatements(t *testing.T) {
	c := made(t, "CREATE TABLE t (a BIGINT, b BIGINT, d DECIMAL, s VARCHAR(9), PRIMARY KEY (a, b)) PARTITION BY a;")
	good := stmt(t, "SELECT a FROM t WHERE a = :p")
	bad := func(x api.Stmt, params []api.Col) {
		t.Helper()
		_, want := c.Check(x, params)
		refused(t, c, x, params, want)
	}
	refused(t, nil, good, theParams(), api.ErrArg)
	refused(t, nil, api.Stmt{}, nil, api.ErrArg)
	refused(t, nil, stmt(t, "SELECT z FROM z"), nil, api.ErrArg)
	whys := map[string]api.Errno{
		"SELECT a FROM z":                            api.ErrName,
		"SELECT z FROM t":                            api.ErrName,
		"SELECT a FROM t WHERE z = 1":                api.ErrName,
		"SELECT t.a FROM t JOIN z ON TRUE":           api.ErrName,
		"SELECT t.a FROM t JOIN t ON TRUE":           api.ErrTable,
		"SELECT a FROM t JOIN t AS u ON TRUE":        api.ErrName,
		"SELECT a FROM t WHERE a":                    api.ErrType,
		"SELECT a FROM t WHERE a = 'x'":              api.ErrType,
		"SELECT a FROM t WHERE a = :zz":              api.ErrParam,
		"SELECT a, COUNT(*) FROM t":                  api.ErrGroup,
		"SELECT a FROM t LIMIT :r":                   api.ErrType,
		"UPDATE t SET a = 1":                         api.ErrPart,
		"UPDATE t SET b = 1, b = 2":                  api.ErrTable,
		"UPDATE t SET z = 1":                         api.ErrName,
		"UPDATE z SET a = 1":                         api.ErrName,
		"DELETE FROM z WHERE a = 1":                  api.ErrName,
		"DELETE FROM t WHERE a + 1":                  api.ErrType,
		"INSERT INTO t (a, b) VALUES (1)":            api.ErrArg,
		"INSERT INTO t (a, b) VALUES (1, 'x')":       api.ErrType,
		"INSERT INTO z (a) VALUES (1)":               api.ErrName,
		"SELECT a FROM t WHERE " + deep(70) + " = 1": api.ErrLong,
	}
	for s, want := range whys {
		refused(t, c, stmt(t, s), theParams(), want)
	}
	refused(t, c, api.Stmt{}, nil, api.ErrArg)
	refused(t, c, api.Stmt{Kind: 5}, nil, api.ErrArg)
	refused(t, c, good, nil, api.ErrParam)
	refused(t, c, good, []api.Col{col("p", 0)}, api.ErrArg)
	refused(t, c, good, []api.Col{col("p", 1), col("p", 1)}, api.ErrArg)
	x := stmt(t, "SELECT a FROM t WHERE a = 1")
	x.Where.Parts = x.Where.Parts[:1]
	bad(x, nil)
	x.Where = api.Expr{Op: "=", Parts: nil}
	bad(x, nil)
}

// deep is a sum of n numbers, which is n expressions deep.
func deep(n int) string { return "1" + strings.Repeat(" + 1", n-1) }

// refused checks that Make and Check refuse a statement so, whatever its accesses are.
func refused(t *testing.T, c *catalog.Catalog, x api.Stmt, params []api.Col, want api.Errno) {
	t.Helper()
	p, why := plan.Make(c, x, params)
	if why != want || want == api.OK || show(p) != show(api.Plan{}) {
		t.Errorf("Make: %v %+v, not %v", why, p, want)
	}
	for _, l := range [][]api.Access{nil, {{Key: -1}}, {{From: 7, Key: 9}}} {
		if why := plan.Check(c, api.Plan{Stmt: x, Access: l}, params); why != want {
			t.Errorf("Check: %v, not %v", why, want)
		}
	}
}
