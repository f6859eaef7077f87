package bag_test

import (
	"fmt"
	"math"
	"slices"
	"strings"
	"testing"

	"lockstep/api"
	"lockstep/bag"
	"lockstep/value"
)

// plain is tables of all types, without conditions on their rows but for the key.
const plain = `CREATE TABLE t (a BIGINT, b BIGINT, d DECIMAL, s VARCHAR(9), f BOOLEAN, PRIMARY KEY (a));
CREATE TABLE u (a BIGINT, c BIGINT, PRIMARY KEY (a));`

func plainData() api.Data {
	return data("1, NULL, 1.5, 'x', TRUE; 2, 5, NULL, 'y', FALSE; 3, 5, 2.5, NULL, NULL; 4, 7, 1.5, 'x', FALSE", "1, 10; 3, 30; 9, 90")
}

// The chapter's examples, and what is said of them elsewhere.
func TestExamples(t *testing.T) {
	c := made(t, joined)
	d := data("1, NULL; 2, 5", "", "")
	says(t, c, d, "SELECT SUM(b), COUNT(b), COUNT(*) AS n FROM t", "5, 1, 2")
	leaves(t, c, d, "UPDATE t SET a = a + 1", 2, 0, "2, NULL; 3, 5")
}

// P13.2: not grouped, each row for which the condition holds answers its items.
func TestSelectItems(t *testing.T) {
	c, d := made(t, plain), plainData()
	for s, want := range map[string]string{
		"SELECT a FROM t": "1; 2; 3; 4",
		"SELECT b FROM t": "NULL; 5; 5; 7",
		"SELECT a + b, a * 1.5, s || '!', NOT f, NULL FROM t": "NULL, 1.5, 'x!', FALSE, NULL; 7, 3.0, 'y!', TRUE, NULL; 8, 4.5, NULL, NULL, NULL; 11, 6.0, 'x!', TRUE, NULL",
		"SELECT 1 FROM t": "1; 1; 1; 1",
		"SELECT :p, :q, :r, :f, :n FROM u WHERE a = 9":                                                 "1, 1.5, 'x', TRUE, NULL",
		"SELECT a FROM t WHERE f":                                                                      "1",
		"SELECT a FROM t WHERE NOT f":                                                                  "2; 4",
		"SELECT a FROM t WHERE f IS NULL":                                                              "3",
		"SELECT a FROM t WHERE a = :p":                                                                 "1",
		"SELECT a FROM t WHERE a = :n":                                                                 "",
		"SELECT a FROM t WHERE a > 9":                                                                  "",
		"SELECT t.a, u.a AS o, c FROM t JOIN u ON u.a = t.a":                                           "1, 1, 10; 3, 3, 30",
		"SELECT x.a, y.a AS o FROM u AS x JOIN u AS y ON x.a < y.a":                                    "1, 3; 1, 9; 3, 9",
		"SELECT x.a, y.a AS o FROM u AS x JOIN u AS y ON x.a = 9":                                      "9, 1; 9, 3; 9, 9",
		"SELECT t.a FROM t JOIN u ON FALSE":                                                            "",
		"SELECT t.a FROM t JOIN u ON t.a = u.a WHERE c > 10":                                           "3",
		"SELECT c FROM t JOIN u ON TRUE WHERE t.a = 2":                                                 "10; 30; 90",
		"SELECT x.a FROM u AS x JOIN u AS y ON TRUE JOIN u AS z ON y.a = z.a JOIN u AS v ON v.a = z.a": "1; 1; 1; 3; 3; 3; 9; 9; 9",
	} {
		says(t, c, d, s, want)
	}
	for _, d := range []api.Data{data("", ""), data("", "1, 1"), data("1, 1, NULL, NULL, NULL", "")} {
		says(t, c, d, "SELECT t.a FROM t JOIN u ON TRUE", "")
	}
}

// P13.2: of each From one row, in every way, of one to four tables: none of them takes the place of another one.
func TestEveryWay(t *testing.T) {
	c, d := made(t, joined), data("1, 0; 2, 0; 3, 0", "", "")
	items, from := "a.a AS n0", "t AS a"
	want := []string{"1", "2", "3"}
	for i, as := range []string{"b", "c", "d"} {
		says(t, c, d, "SELECT "+items+" FROM "+from, strings.Join(want, "; "))
		says(t, c, d, "SELECT "+items+", COUNT(*) FROM "+from+" GROUP BY "+strings.Join(strings.Split("a.a b.a c.a d.a", " ")[:i+1], ", "), strings.Join(want, ", 1; ")+", 1")
		items += fmt.Sprint(", ", as, ".a AS n", i+1)
		from += " JOIN t AS " + as + " ON TRUE"
		var next []string
		for _, ahead := range want {
			for n := range 3 {
				next = append(next, fmt.Sprint(ahead, ", ", n+1))
			}
		}
		want = next
	}
	says(t, c, d, "SELECT "+items+" FROM "+from, strings.Join(want, "; "))
	says(t, c, d, "SELECT "+items+" FROM "+from+" WHERE a.a < b.a AND b.a < c.a AND c.a > d.a", "1, 2, 3, 1; 1, 2, 3, 2")
}

// P13.2: errors of items: the least number of all of them, in all rows that go on, whatever comes behind.
func TestErrorsOfItems(t *testing.T) {
	c := made(t, joined)
	d := data("1, 0; 2, 9223372036854775807; 3, 3", "1, 1", "1, 'x'; 2, '5'")
	for s, why := range map[string]api.Errno{
		"SELECT 1 / b FROM t":        api.ErrZero,
		"SELECT b + 1 FROM t":        api.ErrOver,
		"SELECT 1 / b, b + 1 FROM t": api.ErrOver,
		"SELECT b + 1, 1 / b FROM t": api.ErrOver,
		"SELECT b + 1, 1 / b, CAST(y AS BIGINT) FROM t JOIN w ON TRUE":          api.ErrForm,
		"SELECT CAST(y AS BIGINT), b + 1, 1 / b FROM t JOIN w ON w.x = t.a":     api.ErrForm,
		"SELECT 1 / b AS x FROM t ORDER BY x LIMIT 0":                           api.ErrZero,
		"SELECT DISTINCT 1 / b FROM t":                                          api.ErrZero,
		"SELECT 1 / 0 FROM t":                                                   api.ErrZero,
		"SELECT SUM(1 / b), SUM(b + 1) AS n FROM t":                             api.ErrOver,
		"SELECT COUNT(1 / b) FROM t":                                            api.ErrZero,
		"SELECT COUNT(1 / b) FROM t WHERE b = 0":                                api.ErrZero,
		"SELECT MIN(b + 1) FROM t":                                              api.ErrOver,
		"SELECT MAX(DISTINCT 1 / b) FROM t":                                     api.ErrZero,
		"SELECT 1 / 0, COUNT(*) FROM t":                                         api.ErrZero,
		"SELECT 1 / 0, COUNT(*) FROM t WHERE FALSE":                             api.ErrZero,
		"SELECT 1 / 0, SUM(b + 1) FROM t":                                       api.ErrOver,
		"SELECT COUNT(*) FROM t GROUP BY 1 / b":                                 api.ErrZero,
		"SELECT 1 / b, COUNT(*) FROM t GROUP BY 1 / b":                          api.ErrZero,
		"SELECT COUNT(*) FROM t GROUP BY 1 / b, b + 1":                          api.ErrOver,
		"SELECT COUNT(*) FROM t GROUP BY b + 1, 1 / b":                          api.ErrOver,
		"SELECT SUM(b + 1) FROM t GROUP BY 1 / b":                               api.ErrOver,
		"SELECT SUM(b + 9223372036854775807) FROM t WHERE b = 0 GROUP BY 1 / b": api.ErrZero,
		"SELECT SUM(a + 9223372036854775807) FROM t WHERE b = 0 GROUP BY 1 / b": api.ErrOver,
		"SELECT 9223372036854775807 + 1 FROM t WHERE b = 0 GROUP BY 1 / b":      api.ErrOver,
		"SELECT SUM(CASE WHEN a = 1 THEN 0 ELSE 9223372036854775807 END) FROM t GROUP BY CASE WHEN a = 1 THEN 1 / 0 ELSE 0 END": api.ErrOver,
		"SELECT AVG(b) FROM t GROUP BY a":                                           api.ErrOver,
		"SELECT COUNT(*) AS n FROM t GROUP BY 1 / b HAVING CAST('x' AS BIGINT) = n": api.ErrZero,
		"SELECT SUM(1 / b) AS n FROM t GROUP BY a HAVING FALSE":                     api.ErrZero,
		// Errors of conditions come ahead, whatever their numbers.
		"SELECT b + 1 FROM t WHERE 1 / b > -1":                     api.ErrZero,
		"SELECT SUM(b + 1) FROM t WHERE 1 / b > -1 GROUP BY b + 1": api.ErrZero,
		"SELECT SUM(b + 1) FROM t JOIN u ON 1 / b > -1":            api.ErrZero,
	} {
		errs(t, c, d, s, why)
	}
	// Rows that do not go on have no errors.
	says(t, c, d, "SELECT 1 / b, b + 1 FROM t WHERE a = 3", "0, 4")
	says(t, c, d, "SELECT 1 / b FROM t WHERE FALSE", "")
	says(t, c, d, "SELECT 1 / 0 FROM t WHERE FALSE", "")
	says(t, c, d, "SELECT 1 / 0, COUNT(*) FROM t WHERE FALSE GROUP BY a", "")
	says(t, c, d, "SELECT SUM(1 / b) FROM t WHERE a <> 1", "0")
	says(t, c, d, "SELECT SUM(1 / b) FROM t WHERE FALSE GROUP BY 1 / b", "")
}

// P13.2: HAVING is a condition over what is answered.
func TestHaving(t *testing.T) {
	c, d := made(t, plain), plainData()
	for s, want := range map[string]string{
		"SELECT b, COUNT(*) FROM t GROUP BY b HAVING \"count\" > 1":                  "5, 2",
		"SELECT b, COUNT(*) AS n FROM t GROUP BY b HAVING n = 1 AND b IS NULL":       "NULL, 1",
		"SELECT b, COUNT(*) AS n FROM t GROUP BY b HAVING b > 5":                     "7, 1",
		"SELECT b AS a, COUNT(*) AS n FROM t GROUP BY b HAVING a = 5":                "5, 2",
		"SELECT b, COUNT(*) AS n FROM t GROUP BY b HAVING NULL":                      "",
		"SELECT b, COUNT(*) AS n FROM t GROUP BY b HAVING n = :p ORDER BY b DESC":    "7, 1; NULL, 1",
		"SELECT COUNT(*) AS n FROM t HAVING n = 4":                                   "4",
		"SELECT COUNT(*) AS n FROM t HAVING n <> 4":                                  "",
		"SELECT COUNT(*) AS n FROM t WHERE FALSE HAVING n = 0":                       "0",
		"SELECT b, COUNT(*) AS n FROM t GROUP BY b HAVING 1 / (n - 1) = 1 AND n = 2": "5, 2",
		"SELECT a, COUNT(*) AS n FROM t WHERE FALSE GROUP BY a HAVING 1 / 0 = 1":     "",
	} {
		says(t, c, d, s, want)
	}
	errs(t, c, d, "SELECT b, COUNT(*) AS n FROM t GROUP BY b HAVING 1 / (n - 1) = 1", api.ErrZero)
	errs(t, c, d, "SELECT b, COUNT(*) AS n FROM t GROUP BY b HAVING n = 2 OR 1 / (n - 1) = 1 AND n < 9", api.ErrZero)
	errs(t, c, d, "SELECT b, COUNT(*) AS n FROM t GROUP BY b HAVING CASE WHEN n = 2 THEN CAST('x' AS BIGINT) ELSE 1 / 0 END = 1", api.ErrForm)
	errs(t, c, d, "SELECT COUNT(*) AS n FROM t HAVING n / 0 = 1", api.ErrZero)
	errs(t, c, d, "SELECT COUNT(*) AS n, SUM(1 / 0) FROM t HAVING CAST('x' AS BIGINT) = n", api.ErrZero)
}

// P13.2: DISTINCT: each row once, by all that it is.
func TestDistinct(t *testing.T) {
	c, d := made(t, plain), plainData()
	for s, want := range map[string]string{
		"SELECT DISTINCT b FROM t":                                                "NULL; 5; 7",
		"SELECT DISTINCT b, f FROM t":                                             "NULL, TRUE; 5, NULL; 5, FALSE; 7, FALSE",
		"SELECT DISTINCT s FROM t ORDER BY s DESC":                                "'y'; 'x'; NULL",
		"SELECT DISTINCT d, s FROM t":                                             "NULL, 'y'; 1.5, 'x'; 2.5, NULL",
		"SELECT DISTINCT 1 FROM t":                                                "1",
		"SELECT DISTINCT NULL FROM t":                                             "NULL",
		"SELECT DISTINCT COUNT(*) FROM t GROUP BY b":                              "1; 2",
		"SELECT DISTINCT COUNT(*) AS n FROM t GROUP BY b HAVING n = 1":            "1",
		"SELECT DISTINCT COUNT(*) AS n FROM t GROUP BY b ORDER BY n DESC LIMIT 1": "2",
		"SELECT DISTINCT b FROM t WHERE FALSE":                                    "",
		"SELECT DISTINCT b FROM t ORDER BY b LIMIT 2":                             "NULL; 5",
		"SELECT DISTINCT CAST(b AS DECIMAL) FROM t":                               "NULL; 5.0; 7.0",
	} {
		says(t, c, d, s, want)
	}
}

// P13.2: the order: by several columns, the other way with DESC, of those that are the same by the whole row.
func TestOrder(t *testing.T) {
	c := made(t, plain)
	d := data("4, 1, 2.0, 'b', TRUE; 3, NULL, 1.0, 'a', FALSE; 2, 1, 1.0, NULL, NULL; 1, 2, -1.0, 'B', TRUE; 5, 2, -1.0, 'ab', FALSE", "")
	for s, want := range map[string]string{
		"SELECT a FROM t":                                                   "1; 2; 3; 4; 5",
		"SELECT b, a FROM t":                                                "NULL, 3; 1, 2; 1, 4; 2, 1; 2, 5",
		"SELECT a FROM t ORDER BY a DESC":                                   "5; 4; 3; 2; 1",
		"SELECT a FROM t ORDER BY a ASC":                                    "1; 2; 3; 4; 5",
		"SELECT a, b FROM t ORDER BY b":                                     "3, NULL; 2, 1; 4, 1; 1, 2; 5, 2",
		"SELECT a, b FROM t ORDER BY b DESC":                                "1, 2; 5, 2; 2, 1; 4, 1; 3, NULL",
		"SELECT a, b FROM t ORDER BY b DESC, a DESC":                        "5, 2; 1, 2; 4, 1; 2, 1; 3, NULL",
		"SELECT a, b FROM t ORDER BY b, a DESC":                             "3, NULL; 4, 1; 2, 1; 5, 2; 1, 2",
		"SELECT a, b FROM t ORDER BY b, b DESC":                             "3, NULL; 2, 1; 4, 1; 1, 2; 5, 2",
		"SELECT a, s FROM t ORDER BY s":                                     "2, NULL; 1, 'B'; 3, 'a'; 5, 'ab'; 4, 'b'",
		"SELECT s, a FROM t ORDER BY s DESC":                                "'b', 4; 'ab', 5; 'a', 3; 'B', 1; NULL, 2",
		"SELECT a, f FROM t ORDER BY f DESC, a":                             "1, TRUE; 4, TRUE; 3, FALSE; 5, FALSE; 2, NULL",
		"SELECT a, d FROM t ORDER BY d, a DESC":                             "5, -1.0; 1, -1.0; 3, 1.0; 2, 1.0; 4, 2.0",
		"SELECT d, b, a FROM t ORDER BY b, d DESC":                          "1.0, NULL, 3; 2.0, 1, 4; 1.0, 1, 2; -1.0, 2, 1; -1.0, 2, 5",
		"SELECT 0 - a AS k, a FROM t ORDER BY k":                            "-5, 5; -4, 4; -3, 3; -2, 2; -1, 1",
		"SELECT b, COUNT(*) AS n FROM t GROUP BY b ORDER BY n DESC, b DESC": "2, 2; 1, 2; NULL, 1",
		"SELECT b, d FROM t ORDER BY d":                                     "2, -1.0; 2, -1.0; NULL, 1.0; 1, 1.0; 1, 2.0",
	} {
		says(t, c, d, s, want)
	}
}

// P13.2: LIMIT: the first so many; NULL or below 0 is ErrArg, ahead of all else.
func TestLimit(t *testing.T) {
	c, d := made(t, joined), data("1, 0; 2, 0; 3, 0", "", "")
	for n, want := range map[int64]string{0: "", 1: "3", 2: "3; 2", 3: "3; 2; 1", 4: "3; 2; 1", 4096: "3; 2; 1", 4097: "3; 2; 1", math.MaxInt64: "3; 2; 1"} {
		says(t, c, d, fmt.Sprintf("SELECT a FROM t ORDER BY a DESC LIMIT %d", n), want)
		got := run(t, c, d, stmt(t, "SELECT a FROM t ORDER BY a DESC LIMIT :m"), []api.Col{col("m", api.BigInt)}, api.Row{num(n)})
		if told(got.rows) != want || got.why != api.OK {
			t.Errorf("LIMIT %d: %s %v", n, told(got.rows), got.why)
		}
	}
	says(t, c, d, "SELECT a FROM t LIMIT :p", "1")
	says(t, c, d, "SELECT COUNT(*) FROM t LIMIT 0", "")
	for _, m := range []api.Value{null(), {Type: api.Null, Int: 5}, num(-1), num(math.MinInt64)} {
		for _, s := range []string{
			"SELECT a FROM t LIMIT :m", "SELECT a FROM t WHERE FALSE LIMIT :m", "SELECT COUNT(*) FROM t LIMIT :m",
			"SELECT 1 / 0 FROM t LIMIT :m", "SELECT a FROM t WHERE 1 / 0 = 1 LIMIT :m", "SELECT COUNT(*) AS n FROM t HAVING n / 0 = 1 LIMIT :m",
		} {
			if got := run(t, c, d, stmt(t, s), []api.Col{col("m", api.BigInt)}, api.Row{m}); got.why != api.ErrArg {
				t.Errorf("%s, %v: %v", s, m, got.why)
			}
		}
	}
	// Refused by the catalog ahead of that.
	errs(t, c, d, "SELECT z FROM t LIMIT :n", api.ErrName)
	errs(t, c, d, "SELECT a FROM t LIMIT :q", api.ErrType)
	errs(t, c, d, "SELECT a FROM t LIMIT :zz", api.ErrParam)
	x := stmt(t, "SELECT a FROM t LIMIT 1")
	x.Limit.Value = null()
	if why := run(t, c, d, x, nil, nil).why; why != api.ErrArg {
		t.Error(why)
	}
}

// many is as many rows, whose keys are 0, 1, and so on, and whose second value is 0.
func many(n int) []api.Row {
	var l []api.Row
	for i := range n {
		l = append(l, api.Row{num(int64(i)), num(0)})
	}
	return l
}

// P13.2: 4096 rows may be answered, and no more, whatever LIMIT says; but what is looked at may be more.
func TestManyAnswers(t *testing.T) {
	c := made(t, joined)
	d := api.Data{many(4096), many(2), nil}
	var keys []api.Row
	for i := range 4096 {
		keys = append(keys, api.Row{num(int64(i))})
	}
	says(t, c, d, "SELECT a FROM t", told(keys))
	slices.Reverse(keys)
	says(t, c, d, "SELECT a FROM t ORDER BY a DESC", told(keys))
	says(t, c, d, "SELECT a FROM t ORDER BY a DESC LIMIT 1", "4095")
	says(t, c, d, "SELECT t.a FROM t JOIN u ON u.a = 1 ORDER BY a DESC", told(keys))
	says(t, c, d, "SELECT DISTINCT t.a FROM t JOIN u ON TRUE ORDER BY a DESC LIMIT 4096", told(keys))
	says(t, c, d, "SELECT t.a FROM t JOIN u ON TRUE GROUP BY t.a ORDER BY a DESC", told(keys))
	says(t, c, d, "SELECT t.a, u.a AS o FROM t JOIN u ON TRUE GROUP BY t.a, u.a HAVING o = 0 ORDER BY a DESC LIMIT 1", "4095, 0")
	says(t, c, d, "SELECT DISTINCT b, COUNT(*) FROM t JOIN u ON TRUE GROUP BY t.a, b", "0, 2")
	says(t, c, d, "SELECT DISTINCT u.a FROM t JOIN u ON TRUE", "0; 1")
	for _, s := range []string{
		"SELECT t.a FROM t JOIN u ON t.a < 4095 OR u.a = 1", // 8191
		"SELECT t.a FROM t JOIN u ON u.a = 1 OR t.a = 0",    // 4097
		"SELECT t.a FROM t JOIN u ON u.a = 1 OR t.a = 0 ORDER BY a LIMIT 1",
		"SELECT t.a FROM t JOIN u ON u.a = 1 OR t.a = 0 LIMIT 0",
		"SELECT DISTINCT t.a, u.a AS o FROM t JOIN u ON u.a = 1 OR t.a = 0 LIMIT 0",
		"SELECT DISTINCT t.a, u.a AS o FROM t JOIN u ON TRUE",
		"SELECT COUNT(*) FROM t JOIN u ON u.a = 1 OR t.a = 0 GROUP BY t.a, u.a",
		"SELECT COUNT(*) AS n FROM t JOIN u ON u.a = 1 OR t.a = 0 GROUP BY t.a, u.a HAVING n = 1 LIMIT 1",
	} {
		errs(t, c, d, s, api.ErrLong)
	}
	// What errs comes ahead of that.
	errs(t, c, d, "SELECT 1 / (t.a - 4095) FROM t JOIN u ON TRUE", api.ErrZero)
	errs(t, c, d, "SELECT DISTINCT 1 / (t.a * u.a - 4095) FROM t JOIN u ON TRUE", api.ErrZero)
	errs(t, c, d, "SELECT t.a FROM t JOIN u ON 1 / (t.a * u.a - 4095) >= 0 OR TRUE", api.ErrZero)
	errs(t, c, d, "SELECT t.a, u.a AS o, COUNT(*) AS n FROM t JOIN u ON TRUE GROUP BY t.a, u.a HAVING 1 / (a * o - 4095) < 9", api.ErrZero)
}

// P13.2: 2^20 rows side by side may be looked at, and no more, ahead of all but LIMIT.
func TestManyWays(t *testing.T) {
	t.Parallel()
	c := made(t, joined)
	d := api.Data{many(1024), many(1024), nil}
	says(t, c, d, "SELECT COUNT(*) FROM t JOIN u ON TRUE", "1048576")
	says(t, c, d, "SELECT SUM(t.a) AS s, COUNT(DISTINCT u.a) AS n FROM t JOIN u ON TRUE", "536346624, 1024")
	says(t, c, d, "SELECT t.a, u.a AS o FROM t JOIN u ON t.a + u.a = 2046", "1023, 1023")
	says(t, c, d, "SELECT DISTINCT t.b, u.c FROM t JOIN u ON TRUE", "0, 0")
	says(t, c, d, "SELECT t.b, COUNT(*) FROM t JOIN u ON TRUE GROUP BY t.b", "0, 1048576")
	says(t, c, d, "SELECT t.a, u.a AS o, COUNT(*) AS n FROM t JOIN u ON TRUE GROUP BY t.a, u.a HAVING a * o = 1046529", "1023, 1023, 1")
	errs(t, c, d, "SELECT t.a FROM t JOIN u ON TRUE LIMIT 5", api.ErrLong)
	d[0] = many(1025)
	for _, s := range []string{"SELECT COUNT(*) FROM t JOIN u ON TRUE", "SELECT t.a FROM t JOIN u ON FALSE", "SELECT 1 / 0 FROM t JOIN u ON 1 / 0 = 1", "SELECT COUNT(*) FROM t JOIN u ON TRUE GROUP BY t.a LIMIT 0"} {
		errs(t, c, d, s, api.ErrLong)
	}
	errs(t, c, d, "SELECT 1 / 0 FROM t JOIN u ON 1 / 0 = 1 LIMIT :n", api.ErrArg)
	errs(t, c, d, "SELECT z FROM t JOIN u ON TRUE", api.ErrName)
	// One table without rows, and there is nothing to look at.
	d[2] = nil
	says(t, c, d, "SELECT COUNT(*) FROM t JOIN u ON TRUE JOIN w ON TRUE", "0")
	says(t, c, d, "SELECT t.a FROM w JOIN u ON TRUE JOIN t ON TRUE", "")
}

// P13.2: the tables' numbers of rows, multiplied, do not wrap round; four tables of 4096 rows are too many, of 32 they are not.
func TestManyTables(t *testing.T) {
	t.Parallel()
	c := made(t, joined)
	d := api.Data{many(4096), many(32), nil}
	errs(t, c, d, "SELECT COUNT(*) FROM t JOIN t AS x ON TRUE JOIN t AS y ON TRUE JOIN t AS z ON TRUE", api.ErrLong)
	errs(t, c, d, "SELECT COUNT(*) FROM t JOIN t AS x ON FALSE", api.ErrLong)
	says(t, c, d, "SELECT COUNT(*) FROM u JOIN u AS x ON TRUE JOIN u AS y ON TRUE JOIN u AS z ON TRUE", "1048576")
	d[1] = many(33)
	errs(t, c, d, "SELECT COUNT(*) FROM u JOIN u AS x ON TRUE JOIN u AS y ON TRUE JOIN u AS z ON TRUE", api.ErrLong)
}

// P13.2: many rows that are the same are one with DISTINCT, in whatever order they come, if those that differ are not too many.
func TestManyDistinct(t *testing.T) {
	t.Parallel()
	c := made(t, joined)
	var twice []api.Row
	for i := range 4096 {
		twice = append(twice, api.Row{num(int64(i)), num(int64(i*7919%4096) / 2)})
	}
	d := api.Data{twice, many(100), nil}
	got := run(t, c, d, stmt(t, "SELECT DISTINCT b FROM t JOIN u ON TRUE ORDER BY b DESC"), nil, nil)
	if len(got.rows) != 2048 || !slices.IsSortedFunc(got.rows, func(a, b api.Row) int { return -value.Rows(a, b) }) {
		t.Error(len(got.rows), got.why)
	}
	got = run(t, c, d, stmt(t, "SELECT DISTINCT t.b, u.a - u.a / 2 * 2 AS o FROM t JOIN u ON TRUE"), nil, nil)
	if len(got.rows) != 4096 || !slices.IsSortedFunc(got.rows, value.Rows) {
		t.Error(len(got.rows), got.why)
	}
	errs(t, c, d, "SELECT DISTINCT t.b, CASE WHEN u.a = 99 AND t.a = 77 THEN 2 ELSE u.a - u.a / 2 * 2 END FROM t JOIN u ON TRUE", api.ErrLong)
}

// P13.2: sixteen items, and sixteen expressions by which rows are grouped; long texts and wide rows.
func TestWideSelects(t *testing.T) {
	var cols, names, group []string
	row := api.Row{}
	for i := range 16 {
		name := fmt.Sprint("c", i)
		cols, names, group = append(cols, name+" VARCHAR(4096)"), append(names, name), append(group, name)
		row = append(row, text(strings.Repeat(string(rune('a'+i)), 4096)))
	}
	c := made(t, "CREATE TABLE t ("+strings.Join(cols, ", ")+", PRIMARY KEY (c0, c1, c2, c3));")
	other := slices.Clone(row)
	other[0], other[15] = text(""), null()
	d := api.Data{{row, other}}
	list := strings.Join(names, ", ")
	says(t, c, d, "SELECT "+list+" FROM t", told([]api.Row{other, row}))
	says(t, c, d, "SELECT "+list+" FROM t GROUP BY "+strings.Join(group, ", "), told([]api.Row{other, row}))
	says(t, c, d, "SELECT DISTINCT "+list+" FROM t ORDER BY "+list, told([]api.Row{other, row}))
	says(t, c, d, "SELECT COUNT(*) FROM t GROUP BY "+strings.Join(group[1:15], ", "), "2")
	says(t, c, d, "SELECT COUNT(*) FROM t GROUP BY "+strings.Join(group[1:], ", "), "1; 1")
	if _, _, why := bag.Run(c, d, stmt(t, "SELECT c0 || c1 FROM t"), nil, nil); why != api.ErrLong {
		t.Error(why)
	}
}
