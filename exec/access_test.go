package exec_test

import (
	"fmt"
	"strings"
	"testing"

	"lockstep/api"
	"lockstep/table"
)

// indexed is tables with keys of one column and of several, of all types; some of them begin with the same column.
const indexed = `CREATE TABLE t (a BIGINT, b BIGINT, d DECIMAL, s VARCHAR(9), f BOOLEAN, PRIMARY KEY (a), INDEX ib (b), INDEX ibd (b, d), INDEX idb (d, b, a), UNIQUE us (s, a), INDEX i_f (f, s));
CREATE TABLE u (a BIGINT, b BIGINT, d DECIMAL, PRIMARY KEY (b, a), INDEX ia (a), UNIQUE ud (d));
CREATE TABLE w (a BIGINT, s VARCHAR(9), PRIMARY KEY (a, s), INDEX i_s (s));`

// someRows is rows for them, with NULLs wherever they may be.
func someRows(t *testing.T) []*table.Table {
	l := loaded(t, made(t, indexed), data(
		"0, 0, 0.0, '', FALSE; 1, 1, 1.0, 'a', TRUE; 2, 1, 1.5, 'a', NULL; 3, 2, 1.0, NULL, TRUE; 4, NULL, 2.0, 'b', FALSE; 5, 2, NULL, 'x', TRUE; 6, NULL, NULL, NULL, NULL; 7, 3, 0.9999, 'ab', FALSE; 8, 3, 1.0001, '1', TRUE",
		"0, 0, 0.0; 1, 1, NULL; 1, 2, 1.0; 2, 1, 2.5; 3, 3, NULL; 7, 0, 1.5",
		"1, 'a'; 1, 'b'; 2, ''; 3, 'x'; 8, '1'"))
	wear(l)
	return l
}

// wear lets tables go through changes that leave some of their rows under other numbers.
func wear(l []*table.Table) {
	for _, x := range l {
		for i, k := range x.Rows() {
			if i%3 == 1 {
				x.Delete(k.ID)
				x.Insert(k.Row)
			}
		}
	}
}

// P16.4, P15.7: statements whose conditions say much of keys, each by all its plans.
func TestAccess(t *testing.T) {
	t.Parallel()
	c := made(t, indexed)
	l := someRows(t)
	many := 0
	for _, where := range []string{
		"a = 1", "a = :p", "1 = a", "a = :n", "a = 9", "a = b", "b = 1", "b = 1 AND d = 1.5", "b = 1 AND d = 1", "b = 1 AND d > 1", "d = 1 AND b = 1 AND a = 1", "d = 1 AND b = 1 AND a >= 1", "d = 1 AND b = 2 AND a < 4 AND a > 2",
		"s = 'a'", "s = 'a' AND a > 1", "s = 'a' AND a = 2", "s > 'a' AND s <= 'b'", "s >= '' AND s < 'ab'", "'a' < s", "s < :r", "s = NULL", "s > 'a' || NULL", "s = SUBSTR('abc', 1, 2)",
		"f = TRUE", "f = FALSE AND s = 'b'", "f > FALSE", "f < TRUE", "f >= FALSE AND f <= TRUE", "f = (a = 1)", "f = :f AND s >= 'a' AND s < 'y'", "f = (NULL = 1)",
		"d = 1", "d = 1.0", "d = :p", "d = :q", "d > 1", "d >= 1", "d < 1", "d <= 1", "1 <= d AND d <= 1", "d > 1 AND d < 2", "d >= 1 AND d <= 2", "d > 0.9999 AND d < 1.0001", "d = 1 AND b > 0", "d = :n", "d > :n", "d < :n AND d > 0",
		"a > 3 AND a < 3", "a > 3 AND a <= 3", "a >= 3 AND a < 3", "a >= 3 AND a <= 3", "a > 5 AND a < 2", "a >= 1 AND a >= 2 AND a > 2 AND a < 7 AND a <= 7 AND a < 6", "b = 1 AND b = 2", "b = 2 AND b = 2 AND 2 = b", "a = 1 AND a > 0", "b > 0 AND b = 3",
		"a > :n", "a < :n AND a > 0", "a >= 0 AND a <= :n", "TRUE", "FALSE", "NULL", "a = 1 AND FALSE", "b = :n AND d = 1", "b = 1 AND d = :n", "b = 1 AND d < :n",
	} {
		for _, s := range []string{"SELECT a, b, d, s, f FROM t", "DELETE FROM t", "UPDATE t SET b = COALESCE(b, 7) + 1, d = a / 2, s = 'k'"} {
			x := stmt(t, s+" WHERE "+where)
			many += len(everyPlan(modelOf(c, x, theParams()), 100))
			allOf(t, c, l, x, theArgs(), 100)
		}
		if t.Failed() {
			return
		}
	}
	if many < 1500 {
		t.Errorf("only %d plans", many)
	}
}

// P16.4: rows at both ends of a Low and a High, with LowIn and HighIn each way, behind a Same and without, of each number as an end.
func TestEnds(t *testing.T) {
	t.Parallel()
	c := made(t, "CREATE TABLE t (k BIGINT, g BIGINT, a BIGINT, d DECIMAL, PRIMARY KEY (k), INDEX ia (a), INDEX iga (g, a), INDEX id (d), INDEX igd (g, d, k));")
	var l []string
	for k := range 14 {
		a, d := fmt.Sprint(k%6), fmt.Sprintf("%d.%d", k%6/2, k%2*5)
		if k%6 == 5 {
			a, d = "NULL", "NULL"
		}
		l = append(l, fmt.Sprintf("%d, %d, %s, %s", k, k/7, a, d))
	}
	x := loaded(t, c, data(strings.Join(l, ";")))
	params := []api.Col{col("l", api.BigInt), col("h", api.BigInt), col("ld", api.Dec), col("hd", api.Dec)}
	plans := 0
	for _, column := range []string{"a", "d"} {
		for _, low := range []string{"", " AND %s > :l", " AND %s >= :l", " AND :ld < %s", " AND :ld <= %s"} {
			for _, high := range []string{"", " AND %s < :h", " AND %s <= :h", " AND :hd > %s", " AND :hd >= %s"} {
				for _, same := range []string{"TRUE", "g = 1"} {
					s := "DELETE FROM t WHERE " + same
					for _, e := range []string{low, high} {
						if e != "" {
							s += fmt.Sprintf(e, column)
						}
					}
					y := stmt(t, s)
					every := everyPlan(modelOf(c, y, params), 100)
					plans += len(every)
					for _, a := range every {
						for _, from := range []int64{-1, 0, 2, 4} {
							for _, to := range []int64{0, 2, 3, 6} {
								args := api.Row{num(from), num(to), dec(from * 5000), dec(to * 5000)}
								agrees(t, c, x, api.Plan{Stmt: y, Access: a}, params, args)
							}
						}
						if t.Failed() {
							return
						}
					}
				}
			}
		}
	}
	if plans < 300 {
		t.Errorf("only %d plans", plans)
	}
}

// P16.4: a BIGINT beside a DECIMAL column, also one that is no DECIMAL: that errs in no condition.
func TestBigintBesideDecimal(t *testing.T) {
	c := made(t, indexed)
	l := someRows(t)
	for _, n := range []int64{0, 1, 2, -1, 1<<63 - 1, -1 << 63, (1<<63 - 1) / 10000, (1<<63-1)/10000 + 1, -1 << 63 / 10000, -1<<63/10000 - 1} {
		for _, sign := range []string{"=", "<", "<=", ">", ">="} {
			for _, more := range []string{"", " AND b = 1", " AND d > 0", " AND d < 9", " AND b >= :p AND a < 9"} {
				x := stmt(t, "SELECT a, d FROM t WHERE d "+sign+" :n"+more)
				allOf(t, c, l, x, api.Row{num(1), null(), null(), null(), num(n)}, 50)
			}
		}
	}
	says(t, c, l, "SELECT a FROM t WHERE d = 1", "1; 3")
	says(t, c, l, "SELECT a FROM t WHERE d <= 1", "0; 1; 3; 7")
	says(t, c, l, "SELECT a FROM t WHERE d < 1", "0; 7")
	says(t, c, l, "SELECT a FROM t WHERE d >= 1 AND d < 9223372036854775807", "1; 2; 3; 4; 8")
	says(t, c, l, "SELECT a FROM t WHERE d = 9223372036854775807", "")
	says(t, c, l, "SELECT t.a, u.a AS k FROM t JOIN u ON t.d = u.a WHERE t.b > 0", "1, 1; 1, 1; 3, 1; 3, 1")
}

// P16.4: what an access goes by errs: in all rows, in some, beside others that are FALSE or NULL, as a Same, a Low or a High. Nothing is left out by that.
func TestErringEnds(t *testing.T) {
	t.Parallel()
	c := made(t, indexed)
	l := someRows(t)
	seen := map[api.Errno]int{}
	for _, one := range []string{"b = 1 / 0", "b > 1 / 0", "b < 1 / 0", "b = CAST('x' AS BIGINT)", "b = 9223372036854775807 + :p", "b >= 1 / (:p - 1)", "a = 1 / 0", "d = 1 / 0", "d = 1.0 / 0", "d <= 1 / 0"} {
		for _, two := range []string{"TRUE", "FALSE", "NULL", "d = 1", "d > 1 / 0", "d = :n", "b = 1", "b > 0", "a > 2 AND a < 4", "a = 17", "a = CAST('x' AS BIGINT)", "f = TRUE AND s = 'z'", "a < 1 / 0"} {
			for _, s := range []string{"SELECT COUNT(*) FROM t", "DELETE FROM t", "UPDATE t SET b = 1"} {
				got := allOf(t, c, l, stmt(t, s+" WHERE "+one+" AND "+two), theArgs(), 25)
				seen[got.why]++
			}
		}
		for _, join := range []string{
			"SELECT t.a, u.a AS k FROM t JOIN u ON u.a = 1 / t.b AND t.a > 0", "SELECT t.a, u.a AS k FROM t JOIN u ON u.a = 1 / t.b AND t.b <> 0", "SELECT t.a, u.a AS k FROM t JOIN u ON u.a < 1 / t.b WHERE u.b = t.a",
			"SELECT t.a, u.a AS k FROM t JOIN u ON u.b = t.a AND u.a >= 1 / t.b", "SELECT t.a, u.a AS k FROM t JOIN u ON u.d = 1.0 / t.b AND u.d = t.d", "SELECT t.a, u.a AS k FROM t JOIN u ON u.d > 5 / t.b AND t.a = :n",
			"SELECT t.a, u.a AS k FROM t JOIN u ON u.b = 1 / t.b AND u.a = t.a / 0 AND u.a = :n"} {
			got := allOf(t, c, l, stmt(t, join), theArgs(), 25)
			seen[got.why]++
		}
		if t.Failed() {
			return
		}
	}
	for _, why := range []api.Errno{api.OK, api.ErrZero, api.ErrForm, api.ErrOver} {
		if seen[why] < 20 {
			t.Errorf("too few of %v: %d", why, seen[why])
		}
	}
}

// P16.4, P15.7: joins by all orders of their Froms and all keys, with ends that name columns of Froms ahead.
func TestJoins(t *testing.T) {
	t.Parallel()
	c := made(t, indexed)
	l := someRows(t)
	plans := 0
	for _, s := range []string{
		"SELECT t.a, u.b FROM t JOIN u ON u.a = t.b",
		"SELECT t.a, u.b FROM t JOIN u ON u.a = t.a AND u.b = t.b",
		"SELECT t.a, u.b FROM t JOIN u ON u.a < t.a AND u.b >= t.b WHERE t.d = 1",
		"SELECT t.a, u.a AS k, u.b FROM t JOIN u ON u.d = t.d WHERE t.b > u.b",
		"SELECT t.a, u.a AS k, u.b FROM t JOIN u ON u.d > t.a AND u.d <= t.b",
		"SELECT t.a, u.a AS k, u.b FROM t JOIN u ON t.d = u.b AND t.b = u.a AND t.a < u.b + 5",
		"SELECT x.a, y.a AS k FROM t AS x JOIN t AS y ON y.a = x.b WHERE x.s = y.s",
		"SELECT x.a, y.a AS k, z.a AS l FROM t AS x JOIN t AS y ON y.a = x.b JOIN t AS z ON z.b = y.a",
		"SELECT x.a, y.a AS k FROM t AS x JOIN t AS y ON y.b = x.b AND y.d >= x.d AND y.a <> x.a",
		"SELECT t.a, u.b, w.s FROM t JOIN u ON u.a = t.b JOIN w ON w.a = u.b AND w.s = t.s",
		"SELECT t.a, u.b, w.s FROM t JOIN u ON u.d <= t.d JOIN w ON w.s > t.s WHERE w.a = u.a",
		"SELECT t.a, u.b, w.s FROM w JOIN u ON TRUE JOIN t ON t.s = w.s AND t.a = w.a WHERE u.b = LENGTH(w.s)",
		"SELECT u.a, x.a AS k, y.a AS l, z.a AS m FROM u JOIN w AS x ON x.a = u.a JOIN w AS y ON y.s = x.s JOIN w AS z ON z.a = y.a WHERE u.b = :p",
		"SELECT t.a, u.b FROM t JOIN u ON f WHERE t.a = 1 AND u.a = 1",
		"SELECT t.a, u.b FROM t JOIN u ON s = 'a' AND u.a = t.a JOIN w ON w.a = t.b AND w.s >= t.s",
		"SELECT t.a, u.b FROM u JOIN t ON s = 'a' AND t.a = u.a JOIN w ON TRUE WHERE w.s = 'a' AND t.s = w.s",
		"SELECT COUNT(*) FROM t JOIN u ON TRUE JOIN w ON TRUE WHERE FALSE AND t.a = 1 / 0",
		"SELECT t.a, u.b FROM t JOIN u ON 4 / (t.a - 1) = u.a AND t.a = u.b WHERE u.b <> 1",
	} {
		x := stmt(t, s)
		plans += len(everyPlan(modelOf(c, x, theParams()), 250))
		allOf(t, c, l, x, theArgs(), 250)
		if t.Failed() {
			return
		}
	}
	if plans < 2000 {
		t.Errorf("only %d plans", plans)
	}
	says(t, c, l, "SELECT t.a, u.b FROM t JOIN u ON u.a = t.b WHERE t.d = 1", "1, 1; 1, 2; 3, 1")
}

// P15.7: conditions of all kinds as Parts of two ONs and a WHERE: TRUE, FALSE, NULL, and three errors, by all orders of the Froms. A row that errs is out by another Part that is FALSE or NULL, wherever that stands.
func TestConditions(t *testing.T) {
	t.Parallel()
	c := made(t, indexed)
	l := loaded(t, c, data("1, 1, 1.0, 'a', TRUE; 2, 2, 2.0, 'b', FALSE", "1, 1, 1.0; 2, 1, 2.0", "1, 'a'"))
	kinds := func(as string) []string {
		return []string{as + ".a = 1", as + ".a < 0", as + ".a = :n", "5 / (" + as + ".a - 1) = 5", as + ".a = CAST('x' AS BIGINT)", as + ".a + 9223372036854775807 > 0"}
	}
	seen := map[api.Errno]int{}
	for _, one := range kinds("t") {
		for _, two := range kinds("u") {
			for _, three := range kinds("w") {
				for _, s := range []string{
					"SELECT COUNT(*) FROM t JOIN u ON u.b = 1 AND " + one + " JOIN w ON " + two + " WHERE " + three + " AND w.a = 1",
					"SELECT COUNT(*) FROM w JOIN t ON " + three + " JOIN u ON " + one + " WHERE " + two + " AND u.b = w.a",
					"SELECT COUNT(*) FROM u JOIN w ON " + three + " AND " + two + " JOIN t ON t.a = u.b AND " + one,
				} {
					got := allOf(t, c, l, stmt(t, s), theArgs(), 12)
					seen[got.why]++
				}
			}
		}
		if t.Failed() {
			return
		}
	}
	for _, why := range []api.Errno{api.OK, api.ErrZero, api.ErrForm, api.ErrOver} {
		if seen[why] < 20 {
			t.Errorf("too few of %v: %d", why, seen[why])
		}
	}
}

// P16.4: which error is told where several rows err: the least number, whichever row a plan comes to first.
func TestWhichError(t *testing.T) {
	c := made(t, indexed)
	l := loaded(t, c, data("1, 1, 1.0, '7', NULL; 2, 2, 2.0, 'b', NULL; 3, 9223372036854775807, 3.0, '7', NULL; 4, 0, 4.0, '7', NULL", "", ""))
	form, over, zero := "CAST(s AS BIGINT) > 0", "b + 1 > 0", "1 / b >= 0"
	errs(t, c, l, "SELECT a FROM t WHERE "+form, api.ErrForm)
	errs(t, c, l, "SELECT a FROM t WHERE "+over, api.ErrOver)
	errs(t, c, l, "SELECT a FROM t WHERE "+zero, api.ErrZero)
	for _, where := range []string{form + " AND " + over + " AND " + zero, zero + " AND " + over + " AND " + form, over + " AND " + form} {
		for _, s := range []string{"SELECT a FROM t WHERE ", "DELETE FROM t WHERE ", "UPDATE t SET d = 1 WHERE "} {
			errs(t, c, l, s+where+" AND a > 0", api.ErrForm)
			errs(t, c, l, s+where+" AND a > 2", api.ErrOver)
			errs(t, c, l, s+"1 / b > 0 AND a < 9 AND b <= 0", api.ErrZero)
		}
	}
	says(t, c, l, "SELECT a FROM t WHERE 10 / (a - 1) > 0 AND a = 2", "2")
	says(t, c, l, "SELECT a FROM t WHERE "+form+" AND "+over+" AND a = 1", "1")
	says(t, c, l, "SELECT a FROM t WHERE 1 / 0 = 1 AND a > 4", "")
	says(t, c, l, "SELECT u.a FROM u WHERE 1 / 0 = 1 AND u.a = 1 / 0", "")
	says(t, c, l, "SELECT t.a FROM t JOIN u ON 1 / 0 = 1", "")
	errs(t, c, l, "UPDATE t SET b = b + 1 WHERE 1 / (a - 1) >= 0", api.ErrZero)
	errs(t, c, l, "UPDATE t SET b = b + 1, s = CAST(1 / (a - 4) AS VARCHAR(5)) WHERE a > 1", api.ErrOver)
	errs(t, c, l, "UPDATE t SET b = CAST(s AS BIGINT) / (a - 1) WHERE a < 3", api.ErrForm)
}
