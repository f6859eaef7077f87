package exec_test

import (
	"fmt"
	"strings"
	"testing"

	"lockstep/api"
	"lockstep/exec"
	"lockstep/plan"
)

// P16.4: SELECTs of all kinds, by all plans: what they answer, row by row.
func TestSelects(t *testing.T) {
	t.Parallel()
	c := made(t, "CREATE TABLE t (a BIGINT, b BIGINT, s VARCHAR(9), d DECIMAL, f BOOLEAN, PRIMARY KEY (a), INDEX i (b, a)); CREATE TABLE u (a BIGINT, n BIGINT, PRIMARY KEY (n), INDEX i (a));")
	l := loaded(t, c, data(
		"1, 1, 'x', 1.5, TRUE; 2, 1, 'y', 2.5, FALSE; 3, 2, 'x', NULL, TRUE; 4, NULL, NULL, 0.5, NULL; 5, 2, 'z', 1.5, TRUE; 6, NULL, 'x', -1.0, FALSE",
		"1, 1; 1, 2; 3, 3; NULL, 4; 6, 5"))
	wear(l)
	tests := [][2]string{
		{"SELECT a FROM t", "1; 2; 3; 4; 5; 6"},
		{"SELECT b, a FROM t WHERE a > 2", "NULL, 4; NULL, 6; 2, 3; 2, 5"},
		{"SELECT a FROM t ORDER BY a DESC", "6; 5; 4; 3; 2; 1"},
		{"SELECT a, b FROM t ORDER BY b DESC, a", "3, 2; 5, 2; 1, 1; 2, 1; 4, NULL; 6, NULL"},
		{"SELECT s, b, a FROM t ORDER BY b", "NULL, NULL, 4; 'x', NULL, 6; 'x', 1, 1; 'y', 1, 2; 'x', 2, 3; 'z', 2, 5"},
		{"SELECT a FROM t LIMIT 2", "1; 2"},
		{"SELECT a FROM t ORDER BY a DESC LIMIT :p", "6"},
		{"SELECT a FROM t LIMIT 0", ""},
		{"SELECT a FROM t LIMIT 9223372036854775807", "1; 2; 3; 4; 5; 6"},
		{"SELECT DISTINCT b FROM t", "NULL; 1; 2"},
		{"SELECT DISTINCT s, b FROM t WHERE s = 'x'", "'x', NULL; 'x', 1; 'x', 2"},
		{"SELECT DISTINCT b FROM t ORDER BY b DESC LIMIT 2", "2; 1"},
		{"SELECT DISTINCT 1 AS k FROM t", "1"},
		{"SELECT 7 AS k FROM t WHERE a < 3", "7; 7"},
		{"SELECT COUNT(*), COUNT(b) AS c, COUNT(DISTINCT b) AS d, SUM(b), SUM(DISTINCT b) AS e, AVG(b), MIN(b), MAX(b), AVG(DISTINCT b) AS g, COUNT(s) AS h FROM t WHERE a > 0", "6, 4, 2, 6, 3, 1.5, 1, 2, 1.5, 5"},
		{"SELECT COUNT(*) FROM t", "6"},
		{"SELECT COUNT(*) FROM t WHERE FALSE", "0"},
		{"SELECT SUM(b) FROM t WHERE FALSE", "NULL"},
		{"SELECT SUM(d), AVG(d), MIN(d), MAX(d), MIN(s) AS l, MAX(s) AS h, MIN(f) AS m, MAX(f) AS n FROM t", "5.0, 1.0, -1.0, 2.5, 'x', 'z', FALSE, TRUE"},
		{"SELECT 5 AS k, :p AS p, COUNT(a) FROM t", "5, 1, 6"},
		{"SELECT 5 AS k, :n AS p, COUNT(a) FROM t WHERE a > 9", "5, NULL, 0"},
		{"SELECT SUM(NULL), COUNT(NULL) AS n FROM t", "NULL, 0"},
		{"SELECT MIN(NULL), MAX(DISTINCT NULL) AS n, AVG(NULL) AS k FROM t", "NULL, NULL, NULL"},
		{"SELECT b, COUNT(*) FROM t GROUP BY b", "NULL, 2; 1, 2; 2, 2"},
		{"SELECT b FROM t GROUP BY b", "NULL; 1; 2"},
		{"SELECT b, SUM(a), COUNT(DISTINCT s) AS n FROM t GROUP BY b ORDER BY b DESC", "2, 8, 2; 1, 3, 2; NULL, 10, 1"},
		{"SELECT COUNT(*) FROM t GROUP BY b, s", "1; 1; 1; 1; 1; 1"},
		{"SELECT DISTINCT COUNT(*) FROM t GROUP BY b", "2"},
		{"SELECT b / 2 AS k, MAX(a) FROM t GROUP BY b / 2", "NULL, 6; 0, 2; 1, 5"},
		{"SELECT COUNT(*) FROM t WHERE a > 9 GROUP BY b", ""},
		{"SELECT s, SUM(d) AS m FROM t GROUP BY s HAVING m > 0.5", "'y', 2.5; 'z', 1.5"},
		{"SELECT s, COUNT(*) AS n FROM t GROUP BY s HAVING n > 1 AND s = 'x'", "'x', 3"},
		{"SELECT COUNT(*) AS n FROM t HAVING n > 6", ""},
		{"SELECT 3 AS k, b FROM t GROUP BY b HAVING k = 3 AND b IS NULL", "3, NULL"},
		{"SELECT t.a, u.n FROM t JOIN u ON u.a = t.a", "1, 1; 1, 2; 3, 3; 6, 5"},
		{"SELECT t.a, COUNT(*), MAX(n) AS m FROM t JOIN u ON u.a = t.a GROUP BY t.a", "1, 2, 2; 3, 1, 3; 6, 1, 5"},
		{"SELECT x.a, y.a AS k FROM t AS x JOIN t AS y ON y.b = x.b AND y.a > x.a", "1, 2; 3, 5"},
		{"SELECT x.a, y.a AS k, z.n FROM t AS x JOIN t AS y ON y.a = x.b JOIN u AS z ON z.a = y.a ORDER BY n DESC, a", "1, 1, 2; 2, 1, 2; 1, 1, 1; 2, 1, 1"},
		{"SELECT DISTINCT t.s FROM t JOIN u ON TRUE", "NULL; 'x'; 'y'; 'z'"},
		{"SELECT COUNT(*) FROM t JOIN u ON TRUE JOIN t AS v ON TRUE JOIN u AS w ON w.n = u.n", "180"},
		{"SELECT SUM(t.a * u.n), COUNT(DISTINCT t.a - u.n) AS k FROM t JOIN u ON TRUE", "315, 10"},
	}
	for _, x := range tests {
		says(t, c, l, x[0], x[1])
	}
}

// P16.4: errors of a SELECT, one ahead of another: LIMIT's, too many rows side by side, conditions', items' and groups', HAVING's, too many answers.
func TestSelectErrors(t *testing.T) {
	t.Parallel()
	c := made(t, "CREATE TABLE t (a BIGINT, b BIGINT, s VARCHAR(9), PRIMARY KEY (a), INDEX i (b)); CREATE TABLE u (a BIGINT, PRIMARY KEY (a)); CREATE TABLE w (a BIGINT, PRIMARY KEY (a));")
	l := loaded(t, c, data("1, 0, 'x'; 2, 9223372036854775807, '3'; 3, 9223372036854775807, '4'; 4, 7, '5'", "1; 2", ""))
	tests := []struct {
		s    string
		want api.Errno
	}{
		{"SELECT a / 0 AS k FROM t WHERE 1 / b > 7 LIMIT :n", api.ErrArg},
		{"SELECT a FROM w LIMIT :n", api.ErrArg},
		{"SELECT a FROM t LIMIT :m", api.ErrArg},
		{"SELECT CAST(s AS BIGINT) AS k FROM t WHERE 1 / b > 7", api.ErrZero},
		{"SELECT b + 1 AS k, CAST(s AS BIGINT) AS l FROM t", api.ErrForm},
		{"SELECT b + 1 AS k, 1 / b AS l FROM t", api.ErrOver},
		{"SELECT 1 / b AS l FROM t", api.ErrZero},
		{"SELECT 1 / b AS l FROM t WHERE a > 1 AND b + a > 0", api.ErrOver},
		{"SELECT SUM(b) FROM t", api.ErrOver},
		{"SELECT SUM(b), MIN(1 / b) FROM t", api.ErrOver},
		{"SELECT SUM(b / (a - 4)) FROM t", api.ErrZero},
		{"SELECT SUM(b / (a - 1)), COUNT(*) FROM t WHERE b > 8", api.ErrOver},
		{"SELECT SUM(b / (a - 4) * 2) FROM t WHERE b > 8 OR a = 4", api.ErrOver},
		{"SELECT SUM(b / (a - 4)), SUM(b) AS k FROM t", api.ErrOver},
		{"SELECT AVG(CAST(b AS DECIMAL)) FROM t", api.ErrOver},
		{"SELECT AVG(b) FROM t WHERE b > 8", api.ErrOver},
		{"SELECT COUNT(1 / b) FROM t", api.ErrZero},
		{"SELECT COUNT(DISTINCT 1 / b) FROM t", api.ErrZero},
		{"SELECT COUNT(*) FROM t GROUP BY 1 / b", api.ErrZero},
		{"SELECT COUNT(*), MAX(b + 1) FROM t GROUP BY 1 / b", api.ErrOver},
		{"SELECT COUNT(*), MAX(CAST(s AS BIGINT)) FROM t GROUP BY 1 / b", api.ErrForm},
		{"SELECT COUNT(*) FROM t GROUP BY CAST(s AS BIGINT) + b", api.ErrForm},
		{"SELECT MAX(CAST(s AS BIGINT)), COUNT(b) AS n FROM t GROUP BY 1 / b", api.ErrForm},
		{"SELECT COUNT(b) AS n, MAX(CAST(s AS BIGINT)) FROM t GROUP BY 1 / b", api.ErrForm},
		{"SELECT 1 / b AS k, MAX(CAST(s AS BIGINT)) FROM t WHERE a > 1 OR s <> 'x' GROUP BY 1 / b", api.OK},
		{"SELECT 1 / 0 AS k, COUNT(*) FROM t", api.ErrZero},
		{"SELECT 1 / 0 AS k, COUNT(*) FROM w", api.ErrZero},
		{"SELECT 1 / 0 AS k, COUNT(*) FROM t GROUP BY a", api.ErrZero},
		{"SELECT 1 / 0 AS k, COUNT(*) FROM w GROUP BY a", api.OK},
		{"SELECT 1 / 0 AS k FROM w", api.OK},
		{"SELECT COUNT(*) AS n FROM t GROUP BY a HAVING 1 / (n - 1) > 0", api.ErrZero},
		{"SELECT a, COUNT(*) AS n FROM t GROUP BY a HAVING 1 / (a - 2) > 0 AND a <> 2", api.OK},
		{"SELECT a, SUM(b) AS n FROM t GROUP BY a HAVING 1 / n >= 0 AND a + n > 0", api.ErrOver},
		{"SELECT b, SUM(b) AS n FROM t GROUP BY b HAVING 1 / 0 = 1", api.ErrOver},
	}
	params := append(theParams(), col("m", api.BigInt))
	args := append(theArgs(), num(-1))
	for _, x := range tests {
		y := stmt(t, x.s)
		got := does(t, c, l, y, params, args)
		if got.why != x.want {
			t.Errorf("%s: %v, not %v", x.s, got.why, x.want)
		}
		for _, a := range everyPlan(modelOf(c, y, params), 50) {
			agrees(t, c, l, api.Plan{Stmt: y, Access: a}, params, args)
		}
	}
}

// P16.4: as many rows are answered as may be, and one more; LIMIT does not help, DISTINCT and HAVING do.
func TestAnswersAtTheLimit(t *testing.T) {
	t.Parallel()
	c := made(t, "CREATE TABLE t (a BIGINT, b BIGINT, PRIMARY KEY (a), INDEX i (b)); CREATE TABLE u (a BIGINT, PRIMARY KEY (a));")
	var big []api.Row
	for i := range int64(api.MaxRows) {
		big = append(big, api.Row{num(i), num(i % 3)})
	}
	l := loaded(t, c, api.Data{big, rows("1; 2")})
	for s, want := range map[string]int{
		"SELECT a FROM t":                                                                           4096,
		"SELECT a FROM t ORDER BY a DESC LIMIT 9":                                                   9,
		"SELECT t.a, u.a AS k FROM t JOIN u ON u.a = 1":                                             4096,
		"SELECT t.a, u.a AS k FROM t JOIN u ON TRUE":                                                -1,
		"SELECT t.a, u.a AS k FROM t JOIN u ON TRUE LIMIT 1":                                        -1,
		"SELECT t.a, u.a AS k FROM t JOIN u ON t.a < 2048":                                          4096,
		"SELECT t.a, u.a AS k FROM t JOIN u ON t.a < 2048 OR t.a = 2048 AND u.a = 1":                -1,
		"SELECT DISTINCT t.a FROM t JOIN u ON TRUE":                                                 4096,
		"SELECT DISTINCT t.b, u.a FROM t JOIN u ON TRUE":                                            6,
		"SELECT t.a, COUNT(*) FROM t JOIN u ON TRUE GROUP BY t.a":                                   4096,
		"SELECT COUNT(*) FROM t JOIN u ON TRUE GROUP BY t.a + 5000 * u.a":                           -1,
		"SELECT COUNT(*), t.a, u.a AS k FROM t JOIN u ON TRUE GROUP BY t.a, u.a HAVING a > 0":       -1,
		"SELECT COUNT(*), t.a, u.a AS k FROM t JOIN u ON TRUE GROUP BY t.a, u.a HAVING k = 2":       4096,
		"SELECT COUNT(DISTINCT t.a), MAX(u.a) FROM t JOIN u ON TRUE":                                1,
		"SELECT t.a / (t.a - 4095) AS k FROM t JOIN u ON TRUE":                                      -2,
		"SELECT t.b AS k, COUNT(*) AS n FROM t JOIN u ON TRUE GROUP BY t.a, t.b HAVING 1 / k >= 0 ": -2,
	} {
		got := does(t, c, l, stmt(t, s), nil, nil)
		why := map[int]api.Errno{-1: api.ErrLong, -2: api.ErrZero}[min(want, 0)]
		if got.why != why || len(got.rows) != max(want, 0) {
			t.Errorf("%s: %d %v, not %d", s, len(got.rows), got.why, want)
		}
		agrees(t, c, l, api.Plan{Stmt: stmt(t, s), Access: allRows(c.Tables(), s)}, nil, nil)
	}
}

// allRows is an access to all rows of each From, the last one first.
func allRows(forms []api.Table, s string) []api.Access {
	l := []api.Access{{Key: -1}}
	for i := range strings.Count(s, " JOIN ") {
		l = append([]api.Access{{From: i + 1, Key: -1}}, l...)
	}
	return l
}

// P16.4: as many rows side by side as may be, and more: those count that the tables have, whichever a plan comes to.
func TestRowsSideBySide(t *testing.T) {
	t.Parallel()
	c := made(t, "CREATE TABLE t (a BIGINT, PRIMARY KEY (a)); CREATE TABLE u (a BIGINT, PRIMARY KEY (a)); CREATE TABLE w (a BIGINT, PRIMARY KEY (a));")
	many := func(n int64) []api.Row {
		var l []api.Row
		for i := range n {
			l = append(l, api.Row{num(i)})
		}
		return l
	}
	for _, x := range []struct {
		t, u, w int64
		s       string
		want    api.Errno
	}{
		{4096, 256, 0, "SELECT t.a FROM t JOIN u ON u.a = t.a WHERE t.a = 7", api.OK},
		{4096, 257, 0, "SELECT t.a FROM t JOIN u ON u.a = t.a WHERE t.a = 7", api.ErrLong},
		{4096, 257, 0, "SELECT t.a FROM t JOIN u ON FALSE", api.ErrLong},
		{4096, 257, 0, "SELECT t.a / 0 AS k FROM t JOIN u ON t.a = 1 / 0", api.ErrLong},
		{4096, 257, 0, "SELECT t.a FROM t JOIN u ON FALSE LIMIT :n", api.ErrArg},
		{4096, 257, 0, "SELECT t.a FROM t WHERE a = 9", api.OK},
		{4096, 4096, 0, "SELECT t.a FROM t JOIN u ON TRUE JOIN w ON TRUE", api.OK},
		{4096, 4096, 1, "SELECT t.a FROM t JOIN u ON TRUE JOIN w ON t.a = :n", api.ErrLong},
		{1024, 0, 0, "SELECT x.a FROM t AS x JOIN t AS y ON y.a = x.a AND y.a = 1023", api.OK},
		{1025, 0, 0, "SELECT x.a FROM t AS x JOIN t AS y ON y.a = x.a AND y.a = 1023", api.ErrLong},
		{32, 0, 0, "SELECT x.a FROM t AS x JOIN t AS y ON y.a = x.a JOIN t AS z ON z.a = y.a JOIN t AS v ON v.a = z.a WHERE x.a = 31", api.OK},
		{33, 0, 0, "SELECT x.a FROM t AS x JOIN t AS y ON y.a = x.a JOIN t AS z ON z.a = y.a JOIN t AS v ON v.a = z.a WHERE x.a = 31", api.ErrLong},
		{4096, 0, 0, "SELECT x.a FROM t AS x JOIN t AS y ON y.a = x.a JOIN t AS z ON z.a = y.a JOIN t AS v ON v.a = z.a WHERE x.a = 31", api.ErrLong},
		{4096, 0, 0, "DELETE FROM t WHERE a = 4", api.OK},
	} {
		l := loaded(t, c, api.Data{many(x.t), many(x.u), many(x.w)})
		y := stmt(t, x.s)
		if got := does(t, c, l, y, theParams(), theArgs()); got.why != x.want {
			t.Errorf("%d, %d, %d: %s: %v, not %v", x.t, x.u, x.w, x.s, got.why, x.want)
		}
	}
}

// P16.4: as many different values, and groups, as rows side by side: more than a part of an aggregate holds by itself.
func TestManyValues(t *testing.T) {
	t.Parallel()
	c := made(t, "CREATE TABLE t (a BIGINT, PRIMARY KEY (a)); CREATE TABLE u (a BIGINT, PRIMARY KEY (a));")
	d := api.Data{nil, nil}
	for i := range int64(1000) {
		d[0] = append(d[0], api.Row{num(i)})
		if i < 70 {
			d[1] = append(d[1], api.Row{num(i * 1000)})
		}
	}
	l := loaded(t, c, d)
	for s, want := range map[string]string{
		"SELECT COUNT(DISTINCT t.a + u.a), SUM(DISTINCT t.a + u.a), MAX(DISTINCT t.a + u.a), COUNT(*) AS n FROM t JOIN u ON TRUE":            "70000, 2449965000, 69999, 70000",
		"SELECT COUNT(*) AS n, MIN(t.a) AS k, MAX(u.a) AS l FROM t JOIN u ON TRUE GROUP BY t.a + u.a HAVING k + l = 5000 ORDER BY k LIMIT 2": "1, 0, 5000",
	} {
		x := stmt(t, s)
		p, why := plan.Make(c, x, nil)
		if why != api.OK {
			t.Fatal(s, why)
		}
		got, why := exec.Run(c, l, p, nil, nil)
		if why != api.OK || !strings.HasPrefix(told(got), want) {
			t.Errorf("%s: %s %v, not %s", s, short(told(got)), why, want)
		}
	}
	for _, s := range []string{"SELECT SUM(t.a * u.a), AVG(t.a - u.a), COUNT(DISTINCT t.a / 2 + u.a) AS k FROM t JOIN u ON TRUE", "SELECT u.a, AVG(DISTINCT t.a / 3), SUM(t.a) FROM t JOIN u ON t.a < u.a GROUP BY u.a"} {
		does(t, c, l, stmt(t, s), nil, nil)
	}
}

// P16.4: a SELECT of all that may stand in one: four Froms, sixteen items, groups and orders.
func TestGreatSelect(t *testing.T) {
	t.Parallel()
	var cols, items, group, order []string
	row := ""
	for i := range api.MaxCols {
		name := fmt.Sprintf("c%02d", i)
		cols = append(cols, name+" BIGINT")
		items = append(items, "x."+name)
		group = append(group, "x."+name)
		order = append(order, name+[]string{"", " DESC"}[i%2])
		row += fmt.Sprint(", ", i)
	}
	c := made(t, "CREATE TABLE t ("+strings.Join(cols, ", ")+", PRIMARY KEY (c00), INDEX i (c01, c02, c03, c04));")
	l := loaded(t, c, data("0"+row[3:]+"; 1"+row[3:]+"; 2"+row[3:]+"; 3"+row[3:]))
	s := "SELECT " + strings.Join(items, ", ") + " FROM t AS x JOIN t AS y ON y.c01 = x.c01 AND y.c02 = x.c02 JOIN t AS z ON z.c00 = x.c00 JOIN t AS w ON w.c00 = z.c00 AND w.c00 > 0 GROUP BY " + strings.Join(group, ", ") + " ORDER BY " + strings.Join(order, ", ")
	says(t, c, l, s, "1"+row[3:]+"; 2"+row[3:]+"; 3"+row[3:])
}
