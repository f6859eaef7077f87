package plan_test

import (
	"testing"

	"lockstep/api"
)

// tables is two of all types: keys of one column, of two and of three.
const tables = `CREATE TABLE t (a BIGINT, b BIGINT, c BIGINT, d DECIMAL, s VARCHAR(9), f BOOLEAN, PRIMARY KEY (a), INDEX i (b, c), INDEX j (d), INDEX m (s, f, b));
CREATE TABLE u (a BIGINT, d DECIMAL, g BIGINT, s VARCHAR(9), PRIMARY KEY (a), INDEX k (d));`

// The examples of the chapter.
func TestExamples(t *testing.T) {
	c := made(t, `CREATE TABLE t (a BIGINT, b BIGINT, c BIGINT, d BIGINT, PRIMARY KEY (a), INDEX i (b, c)); CREATE TABLE u (a BIGINT, PRIMARY KEY (a));`)
	plans(t, c, "SELECT a FROM t WHERE b = 1 AND c > 2 AND d = 0", "t i b = 1 c > 2\n")
	plans(t, c, "SELECT a FROM t WHERE a = :p", "t primary a = :p\n")
	plans(t, c, "SELECT t.b FROM t JOIN u ON u.a = t.b WHERE t.a = 1", "t primary a = 1\nu primary a = t.b\n")
	p := planOf(t, c, "SELECT a FROM t WHERE b = 1 AND c > 2 AND d = 0")
	want := []api.Access{{Key: 1, Same: exs("1"), Low: ex("2")}}
	if unplaced(p.Access) != unplaced(want) {
		t.Errorf("%+v, not %+v", p.Access, want)
	}
}

// P15.1: what stands in a plan is what stands in the statement, places too.
func TestPlacesStay(t *testing.T) {
	c := made(t, tables)
	s := "SELECT c FROM t WHERE 1 + :p = b AND c >= 2 AND c < :p * 3"
	p := planOf(t, c, s)
	x := stmt(t, s)
	parts := x.Where.Parts[0].Parts
	want := api.Plan{Stmt: x, Access: []api.Access{{Key: 1, Same: []api.Expr{parts[0].Parts[0]}, Low: parts[1].Parts[1], LowIn: true, High: x.Where.Parts[1].Parts[1]}}}
	if show(p) != show(want) {
		t.Errorf("%+v, not %+v", p, want)
	}
}

// P15.1: a column may stand on each side of each sign.
func TestSides(t *testing.T) {
	c := made(t, tables)
	turned := map[string]string{"=": "=", "<": ">", "<=": ">=", ">": "<", ">=": "<="}
	for sign, back := range turned {
		for _, of := range []string{"5", ":p", "1 + :p", "- 7", "CAST(NULL AS BIGINT)", "LENGTH('x')"} {
			plans(t, c, "SELECT s FROM t WHERE a "+sign+" "+of, "t primary a "+sign+" "+of+"\n")
			plans(t, c, "SELECT s FROM t WHERE "+of+" "+sign+" a", "t primary a "+back+" "+of+"\n")
			plans(t, c, "SELECT s FROM t WHERE b = 1 AND c "+sign+" "+of, "t i b = 1 c "+sign+" "+of+"\n")
			plans(t, c, "SELECT s FROM t WHERE "+of+" "+sign+" c AND 1 = b", "t i b = 1 c "+back+" "+of+"\n")
			plans(t, c, "DELETE FROM t WHERE t.a "+sign+" "+of, "t primary a "+sign+" "+of+"\n")
			plans(t, c, "UPDATE t SET b = 1 WHERE "+of+" "+sign+" t.a", "t primary a "+back+" "+of+"\n")
		}
	}
	for _, s := range []string{"a <> 1", "1 <> a", "a + 0 = 1", "-a = 1", "a IN (1)", "a IS NULL", "a = 1 OR b = 1", "NOT a = 1", "NOT a <> 1", "(a = 1) = TRUE", "a = 1 OR a = 1", "COALESCE(a = 1, FALSE)", "CASE WHEN a = 1 THEN a = 1 ELSE FALSE END", "s LIKE 'x'", "f", "TRUE", "NULL", "CAST(a AS BIGINT) = 1", "COALESCE(a, NULL) = 1"} {
		plans(t, c, "SELECT s FROM t WHERE "+s, "t all\n")
		plans(t, c, "DELETE FROM t WHERE "+s, "t all\n")
	}
	// A condition may be a column's other side.
	plans(t, c, "SELECT a FROM t WHERE s = 'x' AND f = (1 = 1)", "t m s = 'x' f = 1 = 1\n")
}

// P15.1: the other side's type is the column's, or BigInt beside Dec; NULL alone has none.
func TestTypes(t *testing.T) {
	c := made(t, `CREATE TABLE t (n BIGINT, d DECIMAL, s VARCHAR(3), f BOOLEAN, z BIGINT, PRIMARY KEY (z), INDEX kn (n), INDEX kd (d), INDEX ks (s), INDEX kf (f));`)
	sides := map[string][]string{
		"n": {"1", ":p", "LENGTH('a')", "1 + 1", "7 / 2", "NULL + NULL", "CAST('1' AS BIGINT)", "COALESCE(NULL, 1)", "CASE WHEN NULL THEN 1 ELSE NULL END"},
		"d": {"1", "1.5", ":p", ":q", "1 + 0.5", "1 * :q", "CAST(1 AS DECIMAL)", "COALESCE(1, 1.5)", "NULL + 1.0", "- :q"},
		"s": {"'x'", ":r", "'a' || :r", "SUBSTR(:r, 1, 2)", "CAST(1 AS VARCHAR(4096))", "NULL || NULL"},
		"f": {"TRUE", "FALSE", ":f", "COALESCE(1 = 2, :f)", "CAST(NULL AS BOOLEAN)"},
	}
	for name, l := range sides {
		for _, e := range l {
			plans(t, c, "SELECT z FROM t WHERE "+name+" = "+e, "t k"+name+" "+name+" = "+e+"\n")
			plans(t, c, "SELECT z FROM t WHERE "+e+" <= "+name, "t k"+name+" "+name+" >= "+e+"\n")
		}
	}
	for _, s := range []string{"n = 1.5", "1.0 = n", "n = :q", "n < 1 + 0.5", "n = NULL", "NULL = n", "d = NULL", "s = NULL", "f = NULL", "d > COALESCE(NULL, NULL)", "NULL = NULL", "n = CASE WHEN f THEN NULL ELSE NULL END", "n >= COALESCE(1, 1.5)", "n = -:q"} {
		plans(t, c, "SELECT z FROM t WHERE "+s, "t all\n")
	}
	// Two columns of one table never bind each other, whatever their types are.
	for _, s := range []string{"n = z", "z = n", "n = n", "d = n", "n = z + 0", "n < z", "n + 1 = z"} {
		plans(t, c, "SELECT s FROM t WHERE "+s, "t all\n")
	}
}

// P15.1: the key of which most of the first columns, without a gap, are bound by =; of as many a Unique one that is bound whole, then the lower one.
func TestKeys(t *testing.T) {
	const whole = "CREATE TABLE t (a BIGINT, b BIGINT, c BIGINT, d BIGINT, e BIGINT, PRIMARY KEY (e), "
	for _, x := range []struct{ keys, where, want string }{
		{"INDEX i (a, b, c)", "a = 1 AND b = 2 AND c = 3", "i a = 1 b = 2 c = 3"},
		{"INDEX i (a, b, c)", "c = 3 AND b = 2 AND a = 1", "i a = 1 b = 2 c = 3"},
		{"INDEX i (c, a, b)", "a = 1 AND b = 2 AND c = 3", "i c = 3 a = 1 b = 2"},
		{"INDEX i (a, b, c)", "a = 1 AND c = 3", "i a = 1"},
		{"INDEX i (a, b, c)", "b = 2 AND c = 3", "all"},
		{"INDEX i (a, b, c)", "b = 2 AND c > 3", "all"},
		{"INDEX i (a, b, c)", "a > 0 AND b = 2", "i a > 0"},
		{"INDEX i (a, b), INDEX j (a, b, c)", "a = 1 AND b = 2 AND c = 3", "j a = 1 b = 2 c = 3"},
		{"INDEX i (a, b), INDEX j (a, b, c)", "a = 1 AND b = 2", "i a = 1 b = 2"},
		{"INDEX j (a, b, c), INDEX i (a, b)", "a = 1 AND b = 2", "j a = 1 b = 2"},
		// As many: Unique and whole first, wherever it stands.
		{"INDEX i (a, b), UNIQUE k (a, b)", "a = 1 AND b = 2", "k a = 1 b = 2"},
		{"UNIQUE k (a, b), INDEX i (a, b)", "a = 1 AND b = 2", "k a = 1 b = 2"},
		{"INDEX i (a), INDEX j (b), UNIQUE k (c), UNIQUE l (d)", "a = 1 AND b = 2 AND c = 3 AND d = 4", "k c = 3"},
		{"INDEX i (a), UNIQUE k (b, c), UNIQUE l (d)", "a = 1 AND b = 2 AND d = 4", "l d = 4"},
		// Unique, but not whole: the lower number.
		{"INDEX i (a, c), UNIQUE k (a, b)", "a = 1", "i a = 1"},
		{"UNIQUE k (a, b), INDEX i (a, c)", "a = 1", "k a = 1"},
		{"UNIQUE k (a, b), INDEX i (a)", "a = 1", "k a = 1"},
		{"INDEX i (a), UNIQUE k (a, b)", "a = 1", "i a = 1"},
		{"UNIQUE k (a, b, c), UNIQUE l (a, b)", "a = 1 AND b = 2", "l a = 1 b = 2"},
		{"UNIQUE l (a, b), UNIQUE k (a, b, c)", "a = 1 AND b = 2", "l a = 1 b = 2"},
		// The primary key is one of them.
		{"INDEX i (a)", "a = 1 AND e = 2", "primary e = 2"},
		{"UNIQUE k (a)", "a = 1 AND e = 2", "primary e = 2"},
		{"INDEX i (a, b)", "a = 1 AND b = 2 AND e = 2", "i a = 1 b = 2"},
		{"UNIQUE k (e, a)", "a = 1 AND e = 2", "k e = 2 a = 1"},
		// More = come ahead of being Unique, and of a Low and a High.
		{"UNIQUE k (a), INDEX i (b, c)", "a = 1 AND b = 2 AND c = 3", "i b = 2 c = 3"},
		{"INDEX i (a, b), INDEX j (c)", "a = 1 AND b > 2 AND c = 3", "i a = 1 b > 2"},
		{"INDEX j (c), INDEX i (a, b)", "a = 1 AND b > 2 AND c = 3", "j c = 3"},
		{"INDEX j (a), INDEX i (a, b)", "a = 1 AND b > 2", "j a = 1"},
		{"INDEX j (a), INDEX i (c)", "a > 1 AND c = 2", "i c = 2"},
		// No = of a first column: the lowest key whose first column is bound.
		{"INDEX i (a), INDEX j (b)", "b > 1 AND a < 2", "i a < 2"},
		{"INDEX i (a), UNIQUE j (b)", "b > 1 AND b < 9 AND a <= 2", "i a <= 2"},
		{"INDEX i (a, b), INDEX j (b)", "b >= 1", "j b >= 1"},
		{"INDEX i (a)", "a > 1 AND e > 2", "primary e > 2"},
		{"UNIQUE k (a)", "a < 3", "k a < 3"},
		{"INDEX i (a)", "b = 1 AND c > 2", "all"},
		{"INDEX i (a, b)", "", "all"},
		// A key of four columns, the most that there may be.
		{"INDEX i (d, c, b, a)", "a > 1 AND b = 2 AND c = 3 AND d = 4", "i d = 4 c = 3 b = 2 a > 1"},
		{"INDEX i (d, c, b, a)", "a = 1 AND b = 2 AND c = 3 AND d = 4 AND a > 0", "i d = 4 c = 3 b = 2 a = 1"},
	} {
		c := made(t, whole+x.keys+");")
		where := ""
		if x.where != "" {
			where = " WHERE " + x.where
		}
		plans(t, c, "SELECT a FROM t"+where, "t "+x.want+"\n")
		plans(t, c, "DELETE FROM t"+where, "t "+x.want+"\n")
		plans(t, c, "UPDATE t SET a = b"+where, "t "+x.want+"\n")
	}
}

// P15.1: of several conditions on one column the first one; = does not hide the others, but a column bound by it has no Low and no High.
func TestFirstCondition(t *testing.T) {
	c := made(t, tables)
	for where, want := range map[string]string{
		"a = 1 AND a = 2":                               "primary a = 1",
		"2 = a AND a = 1":                               "primary a = 2",
		"a = NULL AND a = 1.0 AND a = 3 AND a = 4":      "primary a = 3",
		"a > 1 AND a > 2":                               "primary a > 1",
		"a >= 2 AND a > 1":                              "primary a >= 2",
		"a > 1 AND a >= 2":                              "primary a > 1",
		"3 > a AND a <= 4":                              "primary a < 3",
		"a <= 4 AND a < 3":                              "primary a <= 4",
		"a < 3 AND a > 1":                               "primary a > 1 a < 3",
		"a >= 1 AND a <= 3":                             "primary a >= 1 a <= 3",
		"a >= 1 AND a < 3":                              "primary a >= 1 a < 3",
		"a > 1 AND a <= 3":                              "primary a > 1 a <= 3",
		"a > 1 AND a = 2 AND a < 3":                     "primary a = 2",
		"b > 1 AND b = 2 AND b < 3":                     "i b = 2",
		"b = 1 AND c > 1 AND c >= 2 AND c < 3":          "i b = 1 c > 1 c < 3",
		"b = 1 AND c >= 1 AND c <= 2 AND c < 9":         "i b = 1 c >= 1 c <= 2",
		"b = 1 AND c = 1 AND c < 3":                     "i b = 1 c = 1",
		"b > 1 AND c = 1":                               "i b > 1",
		"(a = 1 AND b = 2) AND (c = 3 AND d = 4)":       "i b = 2 c = 3",
		"a = 1 AND (b = 2 AND (c = 3 AND NOT d = 4))":   "i b = 2 c = 3",
		"(a = 5 OR a = 6) AND (a = 7 AND TRUE)":         "primary a = 7",
		"TRUE AND (FALSE AND (f AND (NULL AND a = 1)))": "primary a = 1",
	} {
		plans(t, c, "SELECT s FROM t WHERE "+where, "t "+want+"\n")
	}
}

// P15.1: of several Froms the conditions are those of all Ons, in their order, and of the Where; the other side names just what was gone through ahead.
func TestConditionsOfSeveral(t *testing.T) {
	c := made(t, tables)
	for s, want := range map[string]string{
		// In the On, in the Where, and which is first.
		"t JOIN u ON u.a = 1":                                                    "u primary a = 1\nt all\n",
		"t JOIN u ON TRUE WHERE u.a = 1":                                         "u primary a = 1\nt all\n",
		"t JOIN u ON t.a = 2 AND u.a = t.b WHERE t.a = 3":                        "t primary a = 2\nu primary a = t.b\n",
		"t JOIN u ON t.c = 2 JOIN u AS v ON t.a = 5 WHERE t.a = 3":               "t primary a = 5\nu all\nv all\n",
		"t JOIN u ON t.a = 6 JOIN u AS v ON t.a = 5 WHERE t.a = 3":               "t primary a = 6\nu all\nv all\n",
		"t JOIN u ON u.a = t.a WHERE t.b = 4 AND u.a = t.c":                      "t i b = 4\nu primary a = t.a\n",
		"t JOIN u ON u.a = t.a OR TRUE WHERE t.b = 4":                            "t i b = 4\nu all\n",
		"t JOIN u ON NOT u.a = t.a":                                              "t all\nu all\n",
		"t JOIN u ON t.b = u.g AND t.c > u.a":                                    "t all\nu primary a < t.c\n",
		"t JOIN u ON t.b = u.g AND t.c > u.a WHERE u.d = 1":                      "u k d = 1\nt i b = u.g c > u.a\n",
		"t JOIN u ON u.g = t.b AND u.a < t.c WHERE u.d = 1":                      "u k d = 1\nt i b = u.g c > u.a\n",
		"t JOIN u ON t.a = u.a + u.g AND t.a = 1 + u.a WHERE u.d = 1":            "u k d = 1\nt primary a = u.a + u.g\n",
		"t JOIN u ON t.a = u.a + t.b WHERE u.d = 1":                              "u k d = 1\nt all\n",
		"t JOIN u ON t.a + u.a = 1 AND t.a = t.b AND u.a = u.g":                  "t all\nu all\n",
		"t JOIN u ON u.d = t.a WHERE t.b = 1":                                    "t i b = 1\nu k d = t.a\n",
		"t JOIN u ON u.d = t.d WHERE t.b = 1":                                    "t i b = 1\nu k d = t.d\n",
		"t JOIN u ON u.d = t.a WHERE u.s = 'x'":                                  "t all\nu k d = t.a\n",
		"t JOIN u ON t.a = u.d WHERE u.d = 5":                                    "u k d = 5\nt all\n",
		"t JOIN u ON t.a = u.d":                                                  "t all\nu k d = t.a\n",
		"t JOIN u ON t.d = u.a WHERE u.a = 5":                                    "u primary a = 5\nt j d = u.a\n",
		"t JOIN u ON t.s = u.s AND t.f = (u.a > 1) AND t.b <= u.g":               "t all\nu all\n",
		"t JOIN u ON t.s = u.s AND t.f = (u.a > 1) AND t.b <= u.g WHERE u.d = 1": "u k d = 1\nt m s = u.s f = u.a > 1 b <= u.g\n",
		"t JOIN u ON t.s = u.s AND t.f = (u.a > 1) AND t.b = u.g":                "t all\nu all\n",
		"t JOIN u ON c = g AND b = 1 AND g > 0":                                  "t i b = 1\nu all\n",
		"u JOIN t ON b = g JOIN u AS v ON v.a = c":                               "u all\nt all\nv primary a = c\n",
		"t JOIN u ON u.a = t.b JOIN u AS v ON v.a = u.g + t.c WHERE t.a = 9":     "t primary a = 9\nu primary a = t.b\nv primary a = u.g + t.c\n",
	} {
		plans(t, c, "SELECT 1 FROM "+s, want)
	}
}
