package detcheck_test

import (
	"fmt"
	"slices"
	"strings"
	"testing"

	"lockstep/api"
	"lockstep/detcheck"
)

// P17.3: a by that is none of params is ErrArg, whatever else is wrong.
func TestByThatIsNone(t *testing.T) {
	c := made(t, tables)
	for _, s := range []string{"DELETE FROM t WHERE a = :p", "DELETE FROM z", "SELECT k FROM r", "SELECT a FROM t WHERE a = 'x'", "INSERT INTO t (a) VALUES (:p)", "UPDATE t SET a = 1"} {
		for _, params := range [][]api.Col{nil, theParams(), {col("p", api.BigInt), col("p", api.BigInt)}, {col("x", 9)}, {{Of: "z", Name: "p", Type: api.BigInt}}} {
			for _, by := range []string{"", "z", "P", "a", " p", "\xff"} {
				if is, why := detcheck.Single(c, stmt(t, s), params, by); is || why != api.ErrArg {
					t.Errorf("%s beside %v by %q: %v %v", s, params, by, is, why)
				}
			}
		}
	}
	if is, why := detcheck.Single(c, api.Stmt{}, theParams(), "z"); is || why != api.ErrArg {
		t.Error(is, why)
	}
	// A name is one, even if no text can say it.
	for _, by := range []string{"", "P", "\xff"} {
		params := []api.Col{col(by, api.BigInt), col("p", api.BigInt)}
		for s, want := range map[string]bool{"SELECT k FROM r": true, "DELETE FROM t WHERE a = :p": false} {
			if is, why := detcheck.Single(c, stmt(t, s), params, by); is != want || why != api.OK {
				t.Errorf("%s by %q: %v %v", s, by, is, why)
			}
		}
	}
	// Where a parameter is of plays no part.
	if is, why := detcheck.Single(c, stmt(t, "DELETE FROM t WHERE a = :p"), []api.Col{{Of: "z", Name: "p", Type: api.BigInt}}, "p"); !is || why != api.OK {
		t.Error(is, why)
	}
}

// P17.3: an INSERT gives the partition's column just the parameter, of its type.
func TestSingleInserts(t *testing.T) {
	c := made(t, `CREATE TABLE t (x BIGINT, a BIGINT, y BIGINT, PRIMARY KEY (a)) PARTITION BY a; CREATE TABLE d (a DECIMAL, PRIMARY KEY (a)) PARTITION BY a;
CREATE TABLE s (a VARCHAR(3), PRIMARY KEY (a)) PARTITION BY a; CREATE TABLE f (a BOOLEAN, PRIMARY KEY (a)) PARTITION BY a; CREATE TABLE r (a BIGINT, b BIGINT, PRIMARY KEY (a));`)
	for _, x := range []struct {
		s, by string
		want  bool
	}{
		{"INSERT INTO t (a) VALUES (:p)", "p", true},
		{"INSERT INTO t (a) VALUES (:p)", "p2", false},
		{"INSERT INTO t (a) VALUES (:p2)", "p2", true},
		{"INSERT INTO t (a) VALUES (:p2)", "p", false},
		{"INSERT INTO t (a, x, y) VALUES (:p, 1, 2)", "p", true},
		{"INSERT INTO t (x, a, y) VALUES (1, :p, 2)", "p", true},
		{"INSERT INTO t (x, y, a) VALUES (1, 2, :p)", "p", true},
		{"INSERT INTO t (x, y, a) VALUES (:p, 2, 3)", "p", false},
		{"INSERT INTO t (x, y, a) VALUES (:p, :p, 3)", "p", false},
		{"INSERT INTO t (y, a, x) VALUES (:p, :p2, :p)", "p", false},
		{"INSERT INTO t (y, a, x) VALUES (:p, :p2, :p)", "p2", true},
		{"INSERT INTO t (x, y) VALUES (:p, :p)", "p", false},
		{"INSERT INTO t (a) VALUES (1)", "p", false},
		{"INSERT INTO t (a) VALUES (NULL)", "p", false},
		{"INSERT INTO t (a) VALUES (:p + 0)", "p", false},
		{"INSERT INTO t (a) VALUES (- :p)", "p", false},
		{"INSERT INTO t (a) VALUES (CAST(:p AS BIGINT))", "p", false},
		{"INSERT INTO t (a) VALUES (COALESCE(:p, :p))", "p", false},
		{"INSERT INTO d (a) VALUES (:q)", "q", true},
		{"INSERT INTO d (a) VALUES (:p)", "p", false},
		{"INSERT INTO d (a) VALUES (CAST(:p AS DECIMAL))", "p", false},
		{"INSERT INTO s (a) VALUES (:r)", "r", true},
		{"INSERT INTO s (a) VALUES (:r2)", "r", false},
		{"INSERT INTO f (a) VALUES (:f)", "f", true},
		{"INSERT INTO f (a) VALUES (NOT :f)", "f", false},
		{"INSERT INTO r (a) VALUES (:p)", "p", false},
		{"INSERT INTO r (a, b) VALUES (:p, :p)", "p", false},
	} {
		stays(t, c, x.s, x.by, x.want)
	}
	x := stmt(t, "INSERT INTO t (a) VALUES (1)")
	x.Where = ex("a = :p")
	x.Values[0].Name = "p"
	if is, why := detcheck.Single(c, x, theParams(), "p"); is || why != api.OK {
		t.Error("by a Where that plays no part:", is, why)
	}
}

// P17.3: an UPDATE, a DELETE of a table that is partitioned, whose column is the same as by.
func TestSingleChanges(t *testing.T) {
	c := made(t, tables+"CREATE TABLE w (b BIGINT, a BIGINT, c BIGINT, d DECIMAL, PRIMARY KEY (a, b)) PARTITION BY a;")
	for where, want := range map[string]bool{
		"a = :p": true, ":p = a": true, "w.a = :p": true, "b = 1 AND a = :p": true, "a = :p AND 1 / 0 = 1": true, "b > 1 AND (c < 2 AND (TRUE AND :p = w.a))": true,
		"a = b AND b = :p": true, "b = :p AND b = a": true, "a = b AND c = b AND :p = c": true, "a = b AND b = c AND c = a AND a = :p": true, "a = :p AND a = :p2": true,
		"TRUE": false, "a = 1": false, "a = :p2": false, "a = :p + 0": false, "a = - :p": false, "a + 0 = :p": false, "b = :p": false, "a = b": false, "a = b AND b = c AND c = a": false, "a = b AND c = :p": false,
		"a = b AND b = 1": false, "a = :p OR a = :p": false, "NOT a <> :p": false, "a IN (:p)": false, "a >= :p AND a <= :p": false, "CASE WHEN TRUE THEN a = :p ELSE FALSE END": false, "(a = :p) = TRUE": false, "(a = :p AND b = 1) OR FALSE": false,
		":p = :p": false, ":p = 1": false, "a = CAST(:p AS BIGINT)": false, "a = :p2 AND :p2 = :p": false, "a = 1 AND :p = 1": false,
		// Of one type each: a DECIMAL that is as much is another value.
		"a = :q": false, "d = :p AND a = 1": false, "a = d AND d = :p": false, "a = d AND d = :q": false, "a = d AND d = b AND b = :p": false, "a = b AND b = d AND d = c AND c = :p": false, "a = d AND a = b AND d = b AND b = :p": true,
	} {
		stays(t, c, "DELETE FROM w WHERE "+where, "p", want)
		stays(t, c, "UPDATE w SET c = a WHERE "+where, "p", want)
		stays(t, c, "SELECT c FROM w WHERE "+where, "p", want)
		stays(t, c, "SELECT c FROM r JOIN w ON "+where, "p", want)
	}
	stays(t, c, "DELETE FROM w WHERE a = :q", "q", false)
	stays(t, c, "DELETE FROM w", "p", false)
	stays(t, c, "UPDATE w SET b = :p", "p", false)
	stays(t, c, "UPDATE w SET c = 1, b = :p WHERE a = :p", "p", true)
	stays(t, c, "DELETE FROM u WHERE a = :p", "p", false)
	stays(t, c, "DELETE FROM u WHERE e = :p", "p", true)
	// A column that has by's name is not by.
	named := made(t, "CREATE TABLE n (p BIGINT, a BIGINT, PRIMARY KEY (a, p)) PARTITION BY a;")
	for where, want := range map[string]bool{"a = p": false, "p = a": false, "p = :p": false, "a = p AND a = :p2": false, "a = p AND p = :p": true, "a = :p AND p = 1": true} {
		stays(t, named, "DELETE FROM n WHERE "+where, "p", want)
		stays(t, named, "SELECT a FROM n WHERE "+where, "p", want)
	}
	for _, s := range []string{"DELETE FROM r", "DELETE FROM r WHERE k = :p", "UPDATE r SET v = 1", "UPDATE r SET v = 1 WHERE k = :p AND v = :p"} {
		stays(t, c, s, "p", false)
	}
}

// P17.3: columns and parameters of each type.
func TestSingleByTypes(t *testing.T) {
	names := map[int]string{api.BigInt: "p", api.Dec: "q", api.Text: "r", api.Bool: "f"}
	for typ, word := range map[int]string{api.BigInt: "BIGINT", api.Dec: "DECIMAL", api.Text: "VARCHAR(5)", api.Bool: "BOOLEAN"} {
		c := made(t, fmt.Sprintf("CREATE TABLE t (n BIGINT, a %s, PRIMARY KEY (n, a)) PARTITION BY a;", word))
		for other, by := range names {
			isNumber := func(typ int) bool { return typ == api.BigInt || typ == api.Dec }
			if typ == other || isNumber(typ) && isNumber(other) {
				stays(t, c, "DELETE FROM t WHERE a = :"+by, by, typ == other)
				stays(t, c, "SELECT n FROM t WHERE :"+by+" = a", by, typ == other)
				stays(t, c, "DELETE FROM t WHERE a = :"+by+"2", by, false)
				stays(t, c, "UPDATE t SET n = 1 WHERE a = :"+by+" AND a = :"+by+"2", by+"2", typ == other)
			}
		}
	}
}

// P17.3: a SELECT, if each From's table stands whole, or its partition's column is the same as by.
func TestSingleSelects(t *testing.T) {
	c := made(t, tables)
	for s, want := range map[string]bool{
		"SELECT k FROM r":                                                              true,
		"SELECT k FROM r WHERE k = 1":                                                  true,
		"SELECT x.k FROM r AS x JOIN r AS y ON x.k = y.v":                              true,
		"SELECT COUNT(*) FROM r GROUP BY v":                                            true,
		"SELECT b FROM t":                                                              false,
		"SELECT COUNT(*) FROM t":                                                       false,
		"SELECT b FROM t WHERE a = 1":                                                  false,
		"SELECT b FROM t WHERE a = :p LIMIT 1":                                         true,
		"SELECT a FROM t ORDER BY a LIMIT :p":                                          false,
		"SELECT MAX(a) AS a FROM t GROUP BY b HAVING a = :p":                           false,
		"SELECT a FROM t GROUP BY a, :p HAVING a = :p":                                 false,
		"SELECT b FROM t JOIN r ON a = :p":                                             true,
		"SELECT b FROM r JOIN t ON a = :p":                                             true,
		"SELECT b FROM r JOIN t ON k = :p":                                             false,
		"SELECT b FROM r JOIN t ON k = :p AND a = k":                                   true,
		"SELECT b FROM t JOIN r ON k = a WHERE k = :p":                                 true,
		"SELECT b FROM t JOIN r ON k = a WHERE v = :p":                                 false,
		"SELECT b FROM t JOIN u ON e = t.a WHERE e = :p":                               true,
		"SELECT b FROM t JOIN u ON e = t.a WHERE t.a = :p":                             true,
		"SELECT b FROM t JOIN u ON e = t.a":                                            false,
		"SELECT b FROM t JOIN u ON e = t.b WHERE t.a = :p":                             false,
		"SELECT b FROM t JOIN u ON e = t.b WHERE t.b = :p":                             false,
		"SELECT b FROM t JOIN u ON e = t.b WHERE t.b = :p AND t.a = :p":                true,
		"SELECT b FROM t JOIN u ON u.a = :p WHERE t.a = :p":                            false,
		"SELECT b FROM t JOIN u ON e = :p WHERE t.b = :p":                              false,
		"SELECT b FROM t JOIN u ON e = :p WHERE t.a = :p2":                             false,
		"SELECT b FROM t JOIN u ON u.d = t.d JOIN r ON TRUE WHERE t.a = :p AND e = :p": true,
		"SELECT x.b FROM t AS x JOIN t AS y ON x.a = y.a WHERE x.a = :p":               true,
		"SELECT x.b FROM t AS x JOIN t AS y ON x.a = y.a WHERE y.a = :p":               true,
		"SELECT x.b FROM t AS x JOIN t AS y ON x.b = y.a WHERE x.a = :p":               false,
		"SELECT x.b FROM t AS x JOIN t AS y ON TRUE WHERE y.a = :p":                    false,
		"SELECT x.b FROM t AS x JOIN t AS y ON TRUE WHERE x.a = :p":                    false,
		"SELECT x.b FROM t AS x JOIN t AS y ON x.a = y.a OR TRUE WHERE y.a = :p":       false,
		"SELECT w.b FROM t AS w JOIN u AS x ON x.e = w.a JOIN r AS y ON y.v = x.e JOIN t AS z ON z.a = y.v WHERE z.a = :p": true,
		"SELECT w.b FROM t AS w JOIN u AS x ON x.e = w.a JOIN r AS y ON y.v = x.e JOIN t AS z ON z.a = y.k WHERE z.a = :p": false,
		"SELECT w.b FROM t AS w JOIN u AS x ON x.e = w.a JOIN r AS y ON y.v = x.a JOIN t AS z ON z.a = y.v WHERE z.a = :p": false,
		"SELECT y.k FROM r AS y JOIN t ON d = v AND a = v WHERE v = :p":                                                    true,
		// A name of an On, also where it means nothing beside all Froms.
		"SELECT t.b FROM t JOIN r ON a = :p JOIN t AS x ON x.a = t.a": true,
		"SELECT t.b FROM t JOIN r ON a = :p JOIN t AS x ON x.a = t.b": false,
	} {
		stays(t, c, s, "p", want)
	}
	stays(t, c, "SELECT k FROM r WHERE k = :p", "p2", true)
	stays(t, c, "SELECT b FROM t JOIN u ON e = t.a WHERE t.a = :p", "p2", false)
	stays(t, c, "SELECT b FROM t JOIN u ON e = :p2 WHERE t.a = :p", "p2", false)
	stays(t, c, "SELECT b FROM t JOIN u ON e = t.a WHERE t.a = :p2 AND b = :p", "p2", true)
	for s, want := range map[string]bool{"DELETE FROM t WHERE a = 1": false, "DELETE FROM t WHERE a = - :p2": false, "DELETE FROM t WHERE :p2 + 1 = a": false, "DELETE FROM t WHERE a = :p": true} {
		x := stmt(t, s)
		for i := range x.Where.Parts {
			if e := &x.Where.Parts[i]; e.Op != "column" {
				e.Name, e.Of = "p", "zz" // which play no part but in a parameter the name
			}
		}
		if is, why := detcheck.Single(c, x, theParams(), "p"); is != want || why != api.OK {
			t.Error(s, is, why)
		}
	}
	x := stmt(t, "SELECT b FROM t JOIN r ON TRUE")
	x.From[0].On = ex("a = :p")
	if is, why := detcheck.Single(c, x, theParams(), "p"); is || why != api.OK {
		t.Error("by the first From's On:", is, why)
	}
}

// P17.3: what is the same goes on by columns in a row, in any order, and stops at one of another type.
func TestSingleInRows(t *testing.T) {
	var cols, row []string
	for i := range api.MaxCols {
		cols = append(cols, fmt.Sprintf("c%d BIGINT", i))
		if i > 0 {
			row = append(row, fmt.Sprintf("c%d = c%d", i-1, i))
		}
	}
	c := made(t, "CREATE TABLE w ("+strings.Join(cols, ", ")+", PRIMARY KEY (c0)) PARTITION BY c0;")
	cols[7] = "c7 DECIMAL"
	cut := made(t, "CREATE TABLE w ("+strings.Join(cols, ", ")+", PRIMARY KEY (c0)) PARTITION BY c0;")
	for range 2 {
		all := strings.Join(row, " AND ")
		broken := strings.Replace(all, "c7 = c8", "TRUE", 1)
		for i := range api.MaxCols {
			by := fmt.Sprintf(" AND :p = c%d", i)
			stays(t, c, "DELETE FROM w WHERE "+all+by, "p", true)
			stays(t, c, "DELETE FROM w WHERE "+broken+by, "p", i <= 7)
			stays(t, cut, "DELETE FROM w WHERE "+all+by, "p", i < 7)
			stays(t, cut, "DELETE FROM w WHERE "+all+by, "q", false)
		}
		stays(t, c, "DELETE FROM w WHERE "+all, "p", false)
		slices.Reverse(row)
	}
}
