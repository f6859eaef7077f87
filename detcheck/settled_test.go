package detcheck_test

import (
	"fmt"
	"testing"

	"lockstep/api"
	"lockstep/detcheck"
)

// P17.2: a statement that is no SELECT is settled, whatever it does.
func TestChangesAreSettled(t *testing.T) {
	c := made(t, tables)
	for _, s := range []string{
		"INSERT INTO t (a) VALUES (:p)", "INSERT INTO r (k, v) VALUES (1, 2)", "UPDATE t SET b = 1", "UPDATE r SET k = k + 1 WHERE v = 1", "DELETE FROM t", "DELETE FROM u WHERE d = 1",
	} {
		settles(t, c, s, true)
	}
}

// P17.2: grouped without Group: one row at most, whatever it is.
func TestGroupedWithoutGroup(t *testing.T) {
	c := made(t, tables)
	for _, s := range []string{
		"SELECT COUNT(*) FROM t", "SELECT COUNT(*) FROM t JOIN r ON b = v JOIN u ON TRUE", "SELECT MAX(b) AS m, MIN(b) AS n FROM t WHERE b > 1 HAVING m > n ORDER BY n", "SELECT 1, SUM(a) FROM t", "SELECT AVG(d) FROM u LIMIT 0", "SELECT COUNT(DISTINCT b), :p FROM t WHERE a <> :p",
	} {
		settles(t, c, s, true)
	}
	// An item that is an aggregate makes it so; a Group does not need one.
	settles(t, c, "SELECT 1 FROM t", false)
	settles(t, c, "SELECT :p FROM t GROUP BY b", false)
	settles(t, c, "SELECT :p FROM t GROUP BY 1", true)
}

// P17.2: grouped: each of Group is Fixed, a column that is fixed, or the same as an item by whose name it is ordered.
func TestGrouped(t *testing.T) {
	c := made(t, tables)
	for s, want := range map[string]bool{
		"SELECT COUNT(*) FROM t GROUP BY b":                 false,
		"SELECT b, COUNT(*) FROM t GROUP BY b":              false,
		"SELECT b FROM t GROUP BY b":                        false,
		"SELECT COUNT(*) FROM t GROUP BY a":                 false,
		"SELECT COUNT(*) AS n FROM t GROUP BY a ORDER BY n": false,
		// Fixed.
		"SELECT COUNT(*) FROM t GROUP BY 1":                 true,
		"SELECT COUNT(*) FROM t GROUP BY :p + 1, NULL, 'x'": true,
		"SELECT COUNT(*) FROM t GROUP BY 1 / 0":             true,
		"SELECT COUNT(*) FROM t GROUP BY :p, b":             false,
		"SELECT COUNT(*) FROM t GROUP BY b, :p":             false,
		// A column that is fixed.
		"SELECT COUNT(*) FROM t WHERE b = 1 GROUP BY b":                    true,
		"SELECT COUNT(*) FROM t WHERE b = 1 GROUP BY t.b":                  true,
		"SELECT COUNT(*) FROM t WHERE t.b = c AND c = :p GROUP BY b, c, 7": true,
		"SELECT COUNT(*) FROM t WHERE b = 1 GROUP BY b, c":                 false,
		"SELECT COUNT(*) FROM t WHERE b = 1 GROUP BY c, b":                 false,
		"SELECT COUNT(*) FROM t WHERE b = 1 GROUP BY b + 0":                false,
		"SELECT COUNT(*) FROM t WHERE b = 1 OR b = 2 GROUP BY b":           false,
		"SELECT COUNT(*) FROM t JOIN r ON v = 1 GROUP BY v":                true,
		"SELECT COUNT(*) FROM t JOIN r ON v = 1 GROUP BY b":                false,
		"SELECT COUNT(*) FROM t JOIN r ON v = 1 WHERE v = b GROUP BY b":    true,
		"SELECT MAX(b) AS b FROM t GROUP BY c HAVING b = 1":                false,
		"SELECT c FROM t GROUP BY c HAVING c = 1":                          false,
		// The same as an item by whose name it is ordered.
		"SELECT b, COUNT(*) FROM t GROUP BY b ORDER BY b":                                                    true,
		"SELECT COUNT(*), b FROM t GROUP BY b ORDER BY b DESC":                                               true,
		"SELECT b AS n FROM t GROUP BY b ORDER BY n":                                                         true,
		"SELECT b AS n, c AS m FROM t GROUP BY b, c ORDER BY m, n":                                           true,
		"SELECT b AS n, c AS m FROM t GROUP BY b, c ORDER BY m DESC, n, m":                                   true,
		"SELECT b AS n, c AS m FROM t GROUP BY b, c ORDER BY n":                                              false,
		"SELECT b AS n, c AS m FROM t GROUP BY b, c ORDER BY m":                                              false,
		"SELECT b AS n, c AS m FROM t GROUP BY b, c":                                                         false,
		"SELECT b AS n, c AS m FROM t WHERE c = 1 GROUP BY b, c ORDER BY n":                                  true,
		"SELECT b AS n, COUNT(*) AS m FROM t GROUP BY b, c ORDER BY n, m":                                    false,
		"SELECT b AS n, COUNT(*) AS m FROM t GROUP BY b ORDER BY m":                                          false,
		"SELECT b AS n, b AS m FROM t GROUP BY b ORDER BY m":                                                 true,
		"SELECT b + 1 AS n FROM t GROUP BY b + 1 ORDER BY n":                                                 true,
		"SELECT b + 1, COUNT(*) AS n FROM t GROUP BY b + 1 ORDER BY n":                                       false,
		"SELECT b + 1 AS n, COUNT(*) FROM t GROUP BY b + 1, 1 + b ORDER BY n":                                false,
		"SELECT a, b, COUNT(*) FROM t GROUP BY b, a ORDER BY b":                                              false,
		"SELECT b, b + 1 AS n FROM t GROUP BY b, b + 1 ORDER BY n":                                           false,
		"SELECT CASE WHEN f THEN b ELSE c END AS n FROM t GROUP BY CASE WHEN f THEN b ELSE c END ORDER BY n": true,
		"SELECT k, a FROM t JOIN r ON k = b GROUP BY k, a ORDER BY a, k":                                     true,
		"SELECT x.a, y.a AS n FROM t AS x JOIN t AS y ON TRUE GROUP BY x.a, y.a ORDER BY a, n":               true,
		"SELECT x.a, y.a AS n FROM t AS x JOIN t AS y ON TRUE GROUP BY x.a, y.a ORDER BY n":                  false,
		"SELECT x.a, y.a AS n FROM t AS x JOIN t AS y ON x.a = 1 GROUP BY x.a, y.a ORDER BY n":               true,
		// expr.Same holds names against each other as they stand.
		"SELECT b FROM t GROUP BY b, t.b ORDER BY b":              false,
		"SELECT t.b FROM t GROUP BY b, t.b ORDER BY b":            false,
		"SELECT b, t.b AS n FROM t GROUP BY b, t.b ORDER BY b, n": true,
		// What an aggregate is of is no item.
		"SELECT MAX(b) AS n FROM t GROUP BY b ORDER BY n":               false,
		"SELECT COUNT(b) AS b FROM t GROUP BY b ORDER BY b":             false,
		"SELECT b AS m, MIN(c) AS n FROM t GROUP BY b, c ORDER BY m, n": false,
		// Keys tell nothing of groups.
		"SELECT a, COUNT(*) FROM t WHERE b = 1 GROUP BY a": false,
		"SELECT COUNT(*) FROM t WHERE a = 1 GROUP BY c":    false,
		"SELECT a FROM t GROUP BY a, b ORDER BY a":         false,
	} {
		settles(t, c, s, want)
	}
}

// P17.2: not grouped: of each From a Unique key of columns that are all NotNull, and fixed or ordered.
func TestKeys(t *testing.T) {
	c := made(t, `CREATE TABLE t (a BIGINT, b BIGINT NOT NULL, c BIGINT, d BIGINT NOT NULL, e BIGINT NOT NULL, g BIGINT NOT NULL, PRIMARY KEY (a), UNIQUE k (b, d), UNIQUE n (c), UNIQUE m (e, c), INDEX i (g), INDEX j (b));
CREATE TABLE u (a BIGINT, b BIGINT, c BIGINT, PRIMARY KEY (a, b));`)
	for s, want := range map[string]bool{
		"SELECT a FROM t":                            false,
		"SELECT a FROM t ORDER BY a":                 true,
		"SELECT a FROM t ORDER BY a DESC":            true,
		"SELECT a AS x, c AS y FROM t ORDER BY y, x": true,
		"SELECT a AS x, c AS y FROM t ORDER BY y":    false,
		"SELECT c AS a FROM t ORDER BY a":            false,
		"SELECT a AS c FROM t ORDER BY c":            true,
		"SELECT a FROM t WHERE a = 1":                true,
		"SELECT c FROM t WHERE :p = a":               true,
		"SELECT c FROM t WHERE a > 1 LIMIT 1":        false,
		"SELECT c FROM t LIMIT 0":                    false,
		"SELECT a + 0 AS a FROM t ORDER BY a":        false,
		"SELECT 1 AS a FROM t ORDER BY a":            false,
		"SELECT a, a AS x FROM t ORDER BY x":         true,
		"SELECT t.a FROM t ORDER BY a":               true,
		// A further Unique key, of which all are NotNull.
		"SELECT b, d FROM t ORDER BY d, b":       true,
		"SELECT b, d FROM t ORDER BY d":          false,
		"SELECT b, d FROM t ORDER BY b":          false,
		"SELECT c FROM t WHERE b = 1 AND d = 2":  true,
		"SELECT c FROM t WHERE b = 1":            false,
		"SELECT c FROM t WHERE d = 1":            false,
		"SELECT d FROM t WHERE b = 1 ORDER BY d": true,
		"SELECT b FROM t WHERE d = 1 ORDER BY b": true,
		"SELECT b FROM t WHERE d = 1":            false,
		"SELECT b FROM t WHERE d = b ORDER BY b": false, // not fixed: only ordered, so it goes no further
		"SELECT b FROM t WHERE d = b AND b = 3":  true,
		// One that may be NULL, or is not Unique, tells nothing.
		"SELECT c FROM t ORDER BY c":                         false,
		"SELECT c FROM t WHERE c = 1":                        false,
		"SELECT c, e FROM t ORDER BY c, e":                   false,
		"SELECT c FROM t WHERE e = 1 AND c = 2":              false,
		"SELECT g FROM t ORDER BY g":                         false,
		"SELECT g FROM t WHERE g = 1":                        false,
		"SELECT b FROM t ORDER BY b LIMIT 5":                 false,
		"SELECT b, c, e, g FROM t ORDER BY b, c, e, g":       false,
		"SELECT a, b, c, e, g FROM t ORDER BY g, e, c, b, a": true,
		// A key of several columns.
		"SELECT a FROM u ORDER BY a":             false,
		"SELECT b FROM u WHERE a = 1":            false,
		"SELECT b FROM u WHERE a = 1 ORDER BY b": true,
		"SELECT a, b FROM u ORDER BY a, b":       true,
		"SELECT a, c FROM u ORDER BY a, c":       false,
		"SELECT c FROM u WHERE a = 1 AND b = a":  true,
		// Columns of aggregates are not ordered, nor are items without a name.
		"SELECT a, b + 1 FROM u ORDER BY a":          false,
		"SELECT a FROM u WHERE b IS NULL ORDER BY a": false,
		// Distinct plays no part beside a key.
		"SELECT DISTINCT a FROM t":               false,
		"SELECT DISTINCT a, c FROM t ORDER BY a": true,
		"SELECT DISTINCT c FROM t WHERE a = 1":   true,
	} {
		settles(t, c, s, want)
	}
}

// P17.2: of each From: its own columns, also of one table twice.
func TestKeysOfFroms(t *testing.T) {
	c := made(t, "CREATE TABLE t (a BIGINT, b BIGINT, PRIMARY KEY (a)); CREATE TABLE u (k BIGINT, v BIGINT, w BIGINT NOT NULL, PRIMARY KEY (k, v), UNIQUE w (w)); CREATE TABLE h (n BIGINT, m BIGINT, PRIMARY KEY (n));")
	for s, want := range map[string]bool{
		"SELECT a FROM t JOIN u ON TRUE ORDER BY a":                                                 false,
		"SELECT k, v FROM t JOIN u ON TRUE ORDER BY k, v":                                           false,
		"SELECT a, k, v FROM t JOIN u ON TRUE ORDER BY k, a, v":                                     true,
		"SELECT a, w FROM t JOIN u ON TRUE ORDER BY w, a":                                           true,
		"SELECT a, k FROM t JOIN u ON TRUE ORDER BY k, a":                                           false,
		"SELECT a FROM t JOIN u ON w = a ORDER BY a":                                                false,
		"SELECT b FROM t JOIN u ON w = a WHERE a = 1":                                               true,
		"SELECT b FROM t JOIN u ON w = a WHERE w = 1":                                               true,
		"SELECT b FROM t JOIN u ON w = b WHERE a = 1":                                               false,
		"SELECT b FROM t JOIN u ON w = b WHERE w = 1":                                               false,
		"SELECT a FROM t JOIN u ON w = 1 ORDER BY a":                                                true,
		"SELECT w FROM t JOIN u ON a = 1 ORDER BY w":                                                true,
		"SELECT w FROM t JOIN u ON a = 1":                                                           false,
		"SELECT x.a FROM t AS x JOIN t AS y ON TRUE ORDER BY a":                                     false,
		"SELECT y.a FROM t AS x JOIN t AS y ON TRUE ORDER BY a":                                     false,
		"SELECT x.a, y.a AS c FROM t AS x JOIN t AS y ON TRUE ORDER BY a":                           false,
		"SELECT x.a, y.a AS c FROM t AS x JOIN t AS y ON TRUE ORDER BY c, a":                        true,
		"SELECT x.a FROM t AS x JOIN t AS y ON y.a = :p ORDER BY a":                                 true,
		"SELECT y.a FROM t AS x JOIN t AS y ON y.a = :p ORDER BY a":                                 false,
		"SELECT a, n FROM t JOIN u ON TRUE JOIN h ON TRUE ORDER BY a, n":                            false,
		"SELECT a, n, w FROM t JOIN u ON TRUE JOIN h ON TRUE ORDER BY a, n, w":                      true,
		"SELECT a, w FROM t JOIN u ON TRUE JOIN h ON TRUE ORDER BY a, w":                            false,
		"SELECT n, w FROM t JOIN u ON TRUE JOIN h ON TRUE ORDER BY n, w":                            false,
		"SELECT n FROM t JOIN h ON TRUE JOIN u ON v = m AND k = a WHERE a = 1 AND m = 2 ORDER BY n": true,
		"SELECT n FROM t JOIN h ON TRUE JOIN u ON v = m AND k = a WHERE a = 1 ORDER BY n":           false,
	} {
		settles(t, c, s, want)
	}
}

// P17.2: Distinct: each of the items has a name by which it is ordered, whatever it is.
func TestDistinct(t *testing.T) {
	c := made(t, tables)
	for s, want := range map[string]bool{
		"SELECT DISTINCT b FROM t":                                                    false,
		"SELECT DISTINCT b FROM t ORDER BY b":                                         true,
		"SELECT b FROM t ORDER BY b":                                                  false,
		"SELECT DISTINCT b, c FROM t ORDER BY b":                                      false,
		"SELECT DISTINCT b, c FROM t ORDER BY c":                                      false,
		"SELECT DISTINCT b, c FROM t ORDER BY c DESC, b":                              true,
		"SELECT DISTINCT b, c, b + 1 FROM t ORDER BY c, b":                            false,
		"SELECT DISTINCT b + 1 FROM t WHERE c = 1":                                    false,
		"SELECT DISTINCT b + 1 AS n FROM t ORDER BY n":                                true,
		"SELECT DISTINCT b + 1 AS n, 1 FROM t ORDER BY n":                             false,
		"SELECT DISTINCT b + 1 AS n, 1 AS m FROM t ORDER BY n":                        false,
		"SELECT DISTINCT b + 1 AS n, 1 AS m FROM t ORDER BY n, m, n":                  true,
		"SELECT DISTINCT c FROM t WHERE c = 1":                                        false,
		"SELECT DISTINCT b, v FROM t JOIN r ON TRUE ORDER BY v, b":                    true,
		"SELECT DISTINCT b, v FROM t JOIN r ON TRUE ORDER BY v":                       false,
		"SELECT DISTINCT COUNT(*) AS n FROM t GROUP BY b":                             false,
		"SELECT DISTINCT COUNT(*) AS n FROM t GROUP BY b ORDER BY n":                  true,
		"SELECT DISTINCT COUNT(*) FROM t GROUP BY b ORDER BY \"count\"":               true,
		"SELECT COUNT(*) AS n FROM t GROUP BY b ORDER BY n":                           false,
		"SELECT DISTINCT COUNT(*) AS n, MAX(c) FROM t GROUP BY b ORDER BY n":          false,
		"SELECT DISTINCT COUNT(*) AS n, MAX(c) FROM t GROUP BY b ORDER BY n, \"max\"": true,
		"SELECT DISTINCT MAX(c) AS n, b FROM t GROUP BY b ORDER BY b":                 true,
		"SELECT DISTINCT b, c FROM t GROUP BY b, c ORDER BY b":                        false,
		"SELECT COUNT(DISTINCT b) AS n FROM t GROUP BY c ORDER BY n":                  false,
	} {
		settles(t, c, s, want)
	}
}

// P17.2: Orders, names and fields that play no part change nothing: where an item is none, its fields are not asked.
func TestFieldsOfItems(t *testing.T) {
	c := made(t, tables)
	x := stmt(t, "SELECT b AS n, COUNT(*) AS m FROM t GROUP BY b ORDER BY m")
	x.Items[1].Expr = ex("b")
	if is, why := detcheck.Settled(c, x, nil); is || why != api.OK {
		t.Error(is, why)
	}
	x = stmt(t, "SELECT b FROM t WHERE a = 1")
	x.Items[0].Distinct, x.Items[0].Star = true, true
	if is, why := detcheck.Settled(c, x, nil); !is || why != api.OK {
		t.Error(is, why)
	}
	x = stmt(t, "SELECT b FROM t ORDER BY b")
	x.Items[0].Distinct, x.Items[0].Star = true, true
	if is, why := detcheck.Settled(c, x, nil); is || why != api.OK {
		t.Error(is, why)
	}
}

// P17.2: all ways in which each of a key's columns may be NotNull, fixed, ordered, both or none, in keys that are Unique or not.
func TestAllKeysOfThree(t *testing.T) {
	for set := range 1 << 10 {
		bit := func(i int) bool { return set>>i&1 == 1 }
		cols, items, orders, where := "z BIGINT", "z", "", "TRUE"
		want := bit(0)
		for i, name := range []string{"a", "b", "c"} {
			isNotNull, isFixed, isOrdered := bit(1+3*i), bit(2+3*i), bit(3+3*i)
			cols += ", " + name + " BIGINT"
			if isNotNull {
				cols += " NOT NULL"
			}
			items += ", " + name
			if isFixed {
				where += " AND " + name + " = :p"
			}
			if isOrdered {
				orders += ", " + name
			}
			want = want && isNotNull && (isFixed || isOrdered)
		}
		kind := "INDEX"
		if bit(0) {
			kind = "UNIQUE"
		}
		if orders != "" {
			orders = " ORDER BY " + orders[2:]
		}
		c := made(t, fmt.Sprintf("CREATE TABLE t (%s, PRIMARY KEY (z), %s k (c, a, b));", cols, kind))
		settles(t, c, fmt.Sprintf("SELECT %s FROM t WHERE %s%s", items, where, orders), want)
	}
}

// P17.2: all ways in which each of three Groups may be Fixed, fixed, an item, ordered or none.
func TestAllGroupsOfThree(t *testing.T) {
	c := made(t, "CREATE TABLE t (a BIGINT, b BIGINT, c BIGINT, PRIMARY KEY (a));")
	for n := range 6 * 6 * 6 {
		items, group, orders, where := "COUNT(*) AS n", "", "", "TRUE"
		want := true
		for i, name := range []string{"a", "b", "c"} {
			switch n / []int{1, 6, 36}[i] % 6 {
			case 0: // it stays open
				want = false
			case 1: // an item, but not one by which it is ordered
				items += ", " + name
				want = false
			case 2:
				items += ", " + name
				orders += ", " + name
			case 3:
				where += " AND " + name + " = 1"
			case 4:
				name = ":p + 1"
			case 5: // an aggregate of it
				items += ", MAX(" + name + ") AS m" + name
				orders += ", m" + name
				want = false
			}
			group += ", " + name
		}
		settles(t, c, "SELECT "+items+" FROM t WHERE "+where+" GROUP BY "+group[2:]+" ORDER BY n"+orders, want)
	}
}
