package catalog_test

import (
	"strings"
	"testing"

	"lockstep/api"
)

// P11.3: SELECTs in which nothing is wrong.
func TestSelectsThatFit(t *testing.T) {
	c := made(t, tables)
	for _, s := range []string{
		"SELECT a FROM t", "SELECT t.a, b, d, f FROM t", "SELECT x.a FROM t AS x", "SELECT a FROM t AS \"t u\"", "SELECT NULL, 1, 'x' FROM t", "SELECT DISTINCT a FROM t",
		"SELECT t.a, x.a AS b FROM t JOIN t AS x ON t.a = x.a", "SELECT b, e FROM t JOIN u ON t.a = u.a", "SELECT b FROM t AS u JOIN u AS t ON b = e", "SELECT t.a AS x, u.a AS y, v.a AS z, w.a AS b FROM t JOIN u ON TRUE JOIN t AS v ON v.a = u.a JOIN u AS w ON w.e = v.b AND t.a = w.a",

		"SELECT t.a FROM t JOIN t AS \"T\" ON NULL", "SELECT t.a FROM t JOIN u ON FALSE", "SELECT t.a FROM t JOIN u ON f AND h", "SELECT t.a FROM t JOIN u ON :s", "SELECT t.a FROM t JOIN u ON COALESCE(NULL, NULL)",
		"SELECT a FROM t WHERE NULL", "SELECT a FROM t WHERE TRUE", "SELECT a FROM t WHERE f", "SELECT a FROM t WHERE b LIKE :r AND a IN (1, :p, 2.5) OR d IS NULL", "SELECT a FROM t WHERE :s", "SELECT a FROM t WHERE t.a = :p AND t.d = :q",
		"SELECT a FROM t GROUP BY a", "SELECT 1 FROM t GROUP BY a, b, d, f, a", "SELECT a, b FROM t GROUP BY b, a", "SELECT a + 1 FROM t GROUP BY a + 1", "SELECT a FROM t GROUP BY NULL, a", "SELECT t.a FROM t GROUP BY t.a", "SELECT :p, 1 + :p, COUNT(*) FROM t", "SELECT NULL, SUM(a) FROM t GROUP BY b", "SELECT a AS x, COUNT(*) FROM t GROUP BY a", "SELECT :p FROM t GROUP BY :p", "SELECT a + 1.0 FROM t GROUP BY a + 1.0",
		"SELECT COUNT(*), COUNT(a) AS n, COUNT(DISTINCT b) AS m, COUNT(NULL) AS o, COUNT(f) AS p FROM t", "SELECT SUM(a), AVG(d), SUM(NULL) AS x, AVG(NULL) AS y, SUM(DISTINCT a + d) AS z, AVG(:p) AS p FROM t", "SELECT MIN(a), MAX(b), MIN(f) AS x, MAX(d) AS y, MIN(NULL) AS z, MAX(TRUE) AS b FROM t", "SELECT b, SUM(a) FROM t GROUP BY b", "SELECT SUM(a), b FROM t GROUP BY b",
		"SELECT COUNT(*) FROM t HAVING \"count\" > 1", "SELECT a FROM t GROUP BY a HAVING a = 1", "SELECT a AS x FROM t GROUP BY a HAVING x = :p AND NULL", "SELECT COUNT(*) FROM t HAVING TRUE", "SELECT a FROM t GROUP BY a HAVING NULL", "SELECT MAX(f) AS f FROM t HAVING f", "SELECT MAX(b), MIN(b), AVG(a), SUM(d), COUNT(*) FROM t HAVING \"max\" LIKE \"min\" AND \"avg\" > \"sum\" AND \"count\" = 1", "SELECT AVG(NULL) FROM t HAVING \"avg\" > 1",
		"SELECT a, b FROM t ORDER BY b, a DESC, b", "SELECT a AS x FROM t ORDER BY x", "SELECT COUNT(*) FROM t ORDER BY \"count\"", "SELECT NULL AS x FROM t ORDER BY x", "SELECT a + 1 AS \"sum\", SUM(a) AS y FROM t GROUP BY a + 1 ORDER BY y, \"sum\"",
		"SELECT a FROM t LIMIT 0", "SELECT a FROM t LIMIT 9223372036854775807", "SELECT a FROM t LIMIT :p",
		"SELECT 1, 2, a + 1, a + 1 FROM t", "SELECT a, t.b, NULL, NULL FROM t", "SELECT a AS b, b AS a FROM t", "SELECT a, a AS \"A\" FROM t",
		"SELECT DISTINCT b, COUNT(DISTINCT g) AS n FROM t JOIN u ON e = b WHERE h GROUP BY b, g HAVING n > 1 ORDER BY n DESC, b LIMIT :p",
	} {
		checks(t, c, s, api.OK, params()...)
	}
}

// P11.3: each error of a SELECT alone, at its place.
func TestWrongSelects(t *testing.T) {
	c := made(t, tables)
	for s, why := range map[string]api.Errno{
		// From
		"SELECT a FROM ^z": api.ErrName, "SELECT a FROM ^\"T\"": api.ErrName, "SELECT a FROM ^z AS t": api.ErrName, "SELECT t.a FROM t JOIN ^z ON TRUE": api.ErrName, "SELECT t.a FROM t JOIN u ON TRUE JOIN ^x AS y ON TRUE": api.ErrName, "SELECT t.a FROM t AS x JOIN ^x ON TRUE": api.ErrName,
		"SELECT a FROM t JOIN ^t ON TRUE": api.ErrTable, "SELECT u.a FROM t JOIN u ON TRUE JOIN ^t ON TRUE": api.ErrTable, "SELECT u.a FROM t AS u JOIN ^u ON TRUE": api.ErrTable, "SELECT x.a FROM t AS x JOIN ^u AS x ON TRUE": api.ErrTable, "SELECT t.a FROM t JOIN u AS y ON TRUE JOIN t AS x ON TRUE JOIN ^t AS y ON TRUE": api.ErrTable,
		// On
		"SELECT t.a FROM t JOIN u ON ^z = 1": api.ErrName, "SELECT t.a FROM t JOIN u ON ^a = 1": api.ErrName, "SELECT t.a FROM t JOIN u ON t.a = ^t.e": api.ErrName, "SELECT t.a FROM t AS x JOIN u ON ^t.a = 1": api.ErrName, "SELECT t.a FROM t JOIN u ON t.a = ^:z": api.ErrParam, "SELECT t.a FROM t JOIN u ON t.a ^= u.e": api.ErrType,
		"SELECT t.a FROM t JOIN u ON ^1": api.ErrType, "SELECT t.a FROM t JOIN u ON ^e": api.ErrType, "SELECT t.a FROM t JOIN u ON t.a ^+ u.a": api.ErrType, "SELECT t.a FROM t JOIN u ON h JOIN u AS v ON ^'x'": api.ErrType, "SELECT t.a FROM t JOIN u ON ^:q": api.ErrType,
		"SELECT t.a FROM t JOIN u ON ^v.a = 1 JOIN u AS v ON TRUE": api.ErrName, "SELECT t.a FROM t JOIN t AS x ON x.a = ^g JOIN u ON TRUE": api.ErrName,
		// Where
		"SELECT a FROM t WHERE ^z": api.ErrName, "SELECT t.a FROM t JOIN u ON TRUE WHERE ^a = 1": api.ErrName, "SELECT a AS x FROM t WHERE ^x = 1": api.ErrName, "SELECT a FROM t WHERE a = ^:t": api.ErrParam, "SELECT a FROM t WHERE b ^= 1": api.ErrType, "SELECT a FROM t WHERE ^u.a = 1": api.ErrName,
		"SELECT a FROM t WHERE ^b": api.ErrType, "SELECT a FROM t WHERE ^1": api.ErrType, "SELECT a FROM t WHERE ^'TRUE'": api.ErrType, "SELECT a FROM t WHERE ^:p": api.ErrType, "SELECT a FROM t WHERE a ^+ 1": api.ErrType, "SELECT a FROM t WHERE ^-a": api.ErrType,
		// Group
		"SELECT 1 FROM t GROUP BY ^z": api.ErrName, "SELECT a FROM t GROUP BY a, b, ^u.a": api.ErrName, "SELECT a AS x FROM t GROUP BY a, ^x": api.ErrName, "SELECT a FROM t GROUP BY a, b ^+ 1": api.ErrType, "SELECT a FROM t GROUP BY ^:z": api.ErrParam,
		// items
		"SELECT ^z FROM t": api.ErrName, "SELECT a, ^z FROM t": api.ErrName, "SELECT ^a FROM t JOIN u ON TRUE": api.ErrName, "SELECT ^t.a FROM t AS x": api.ErrName, "SELECT COUNT(^z) FROM t": api.ErrName, "SELECT a ^+ b FROM t": api.ErrType, "SELECT MIN(a ^AND f) FROM t": api.ErrType, "SELECT a, b, ^:z AS c FROM t": api.ErrParam, "SELECT MAX(^:z) FROM t": api.ErrParam, "SELECT COUNT(DISTINCT b ^|| a) FROM t": api.ErrType,
		"SELECT ^SUM(b) FROM t": api.ErrType, "SELECT ^AVG(b) FROM t": api.ErrType, "SELECT COUNT(*), ^SUM(f) FROM t": api.ErrType, "SELECT MAX(b), ^AVG(DISTINCT a = 1) FROM t": api.ErrType, "SELECT ^SUM('x') AS y FROM t": api.ErrType, "SELECT ^AVG(:r) FROM t": api.ErrType, "SELECT ^SUM(:s) FROM t": api.ErrType, "SELECT ^SUM(b || 'x') FROM t": api.ErrType,
		// groups
		"SELECT ^a, COUNT(*) FROM t": api.ErrGroup, "SELECT COUNT(*), ^a FROM t": api.ErrGroup, "SELECT ^a FROM t GROUP BY b": api.ErrGroup, "SELECT b, ^a AS x FROM t GROUP BY b": api.ErrGroup, "SELECT ^t.a FROM t GROUP BY a": api.ErrGroup, "SELECT ^a FROM t GROUP BY t.a": api.ErrGroup, "SELECT ^a + 1 FROM t GROUP BY a": api.ErrGroup, "SELECT ^a FROM t GROUP BY a + 1": api.ErrGroup, "SELECT ^a + 1.0 FROM t GROUP BY a + 1": api.ErrGroup, "SELECT ^1 + a FROM t GROUP BY a + 1": api.ErrGroup, "SELECT 1, ^:p + a, COUNT(*) FROM t": api.ErrGroup, "SELECT MAX(a), ^NOT f FROM t": api.ErrGroup, "SELECT SUM(NULL), a, ^b FROM t GROUP BY a": api.ErrGroup, "SELECT ^a IS NULL FROM t GROUP BY 1": api.ErrGroup,
		"SELECT a FROM t HAVING a ^= 1": api.ErrGroup, "SELECT a FROM t HAVING ^TRUE": api.ErrGroup, "SELECT a FROM t HAVING ^NULL": api.ErrGroup, "SELECT a FROM t HAVING z ^+ 1": api.ErrGroup, "SELECT 1 FROM t WHERE f HAVING ^f": api.ErrGroup, "SELECT DISTINCT a FROM t HAVING ^:s": api.ErrGroup,
		// names of items
		"SELECT a, ^a FROM t": api.ErrTable, "SELECT t.a, ^u.a FROM t JOIN u ON TRUE": api.ErrTable, "SELECT a AS x, b, ^d AS x FROM t": api.ErrTable, "SELECT COUNT(*), ^COUNT(a) FROM t": api.ErrTable, "SELECT 1 AS \"count\", ^COUNT(a) FROM t": api.ErrTable, "SELECT a AS x, b AS y, ^d AS y, f AS x FROM t": api.ErrTable, "SELECT a AS b, ^b FROM t": api.ErrTable, "SELECT 1, 2, 3 AS x, ^4 AS x FROM t": api.ErrTable, "SELECT a, ^a, a AS a FROM t": api.ErrTable,
		// Having
		"SELECT COUNT(*) FROM t HAVING ^a = 1": api.ErrName, "SELECT a AS x FROM t GROUP BY a HAVING ^a = 1": api.ErrName, "SELECT a FROM t GROUP BY a HAVING ^t.a = 1": api.ErrName, "SELECT COUNT(*) FROM t HAVING ^:z = 1": api.ErrParam, "SELECT MAX(b) FROM t HAVING \"max\" ^= 1": api.ErrType, "SELECT a, b FROM t GROUP BY a, b HAVING ^d = 1": api.ErrName, "SELECT NULL AS x FROM t GROUP BY a HAVING ^x = 1": api.ErrType, "SELECT SUM(NULL) FROM t HAVING ^\"sum\" = 1": api.ErrType, "SELECT a + 1 FROM t GROUP BY a + 1 HAVING ^a > 1": api.ErrName,
		"SELECT COUNT(*) FROM t HAVING ^\"count\"": api.ErrType, "SELECT COUNT(*) FROM t HAVING ^1": api.ErrType, "SELECT a FROM t GROUP BY a HAVING a ^+ 1": api.ErrType, "SELECT COUNT(*) FROM t HAVING ^'x'": api.ErrType, "SELECT COUNT(f) AS f FROM t HAVING ^f": api.ErrType, "SELECT AVG(a) AS f FROM t HAVING ^f": api.ErrType,
		// Order
		"SELECT a FROM t ORDER BY ^z": api.ErrName, "SELECT a FROM t ORDER BY a, ^b": api.ErrName, "SELECT a AS x FROM t ORDER BY ^a": api.ErrName, "SELECT COUNT(*) AS n FROM t ORDER BY n, ^\"count\"": api.ErrName, "SELECT a + 1 FROM t ORDER BY ^a": api.ErrName, "SELECT a FROM t ORDER BY ^\"A\" DESC": api.ErrName, "SELECT a FROM t ORDER BY ^t": api.ErrName,
		// Limit
		"SELECT a FROM t LIMIT ^:z": api.ErrParam, "SELECT a FROM t LIMIT ^:a": api.ErrParam, "SELECT a FROM t LIMIT ^:q": api.ErrType, "SELECT a FROM t LIMIT ^:r": api.ErrType, "SELECT a FROM t ORDER BY a LIMIT ^:s": api.ErrType,
	} {
		checks(t, c, s, why, params()...)
	}
}

// P11.3: expressions that are too deep have no place but 0, wherever they stand.
func TestTooDeepSelects(t *testing.T) {
	c := made(t, tables)
	for _, s := range []string{
		"SELECT t.a FROM t JOIN u ON %", "SELECT a FROM t WHERE %", "SELECT 1 FROM t GROUP BY %", "SELECT % FROM t", "SELECT COUNT(%) FROM t", "SELECT MIN(b), MAX(%) FROM t", "SELECT COUNT(*) FROM t HAVING %",
		"DELETE FROM t WHERE %", "UPDATE t SET f = %", "UPDATE t SET b = '' WHERE %", "INSERT INTO t (f) VALUES (%)",
	} {
		checks(t, c, strings.Replace(s, "%", deep(64)+" = 1", 1), api.ErrLong)
		checks(t, c, strings.Replace(s, "%", deep(63)+" = 1", 1), api.OK)
	}
	checks(t, c, "SELECT SUM("+deep(65)+") FROM t", api.ErrLong)
	checks(t, c, "SELECT SUM("+deep(64)+") FROM t", api.OK)
}

// a clause of a statement: right, or wrong in one way or another, marked there.
type clause struct {
	good string
	bad  []badStep
}

// together goes through a statement's clauses, each right or wrong in each of its ways; they stand one behind the other, and their errors are told in the order of ranks.
func together(clauses []clause, ranks []int, tell func(s string, why api.Errno)) {
	choice := make([]int, len(clauses))
	for {
		first := -1
		for _, i := range ranks {
			if first < 0 && choice[i] > 0 {
				first = i
			}
		}
		s, why := "", api.OK
		for i, c := range clauses {
			switch {
			case choice[i] == 0:
				s += c.good
			case i == first:
				s += c.bad[choice[i]-1].text
				why = c.bad[choice[i]-1].why
			default:
				s += unmarked(c.bad[choice[i]-1].text)
			}
		}
		tell(s, why)
		i := 0
		for i < len(choice) && choice[i] == len(clauses[i].bad) {
			choice[i] = 0
			i++
		}
		if i == len(choice) {
			return
		}
		choice[i]++
	}
}

// P11.3: of several errors of a SELECT that is grouped the first one, by the order of the chapter, whatever the order in the text.
func TestFlawsOfSelects(t *testing.T) {
	c := made(t, tables)
	clauses := []clause{
		{"SELECT t.b, ", []badStep{{"SELECT t.b, ^zz, ", api.ErrName}}},
		{"SUM(d) AS n", []badStep{{"^SUM(e) AS n", api.ErrType}}},
		{"", []badStep{{", ^d", api.ErrGroup}}},
		{"", []badStep{{", ^MAX(d) AS n", api.ErrTable}}},
		{" FROM t JOIN u", []badStep{{" FROM t JOIN ^z ON TRUE JOIN u", api.ErrName}, {" FROM t JOIN ^t ON TRUE JOIN u", api.ErrTable}}},
		{" ON t.a = u.a", []badStep{{" ON t.a = ^zz", api.ErrName}, {" ON ^t.a", api.ErrType}}},
		{" WHERE f", []badStep{{" WHERE f AND ^zz", api.ErrName}, {" WHERE ^b", api.ErrType}}},
		{" GROUP BY t.b", []badStep{{" GROUP BY t.b, ^zz", api.ErrName}}},
		{" HAVING n > 1", []badStep{{" HAVING n ^> 'x'", api.ErrType}, {" HAVING ^n", api.ErrType}}},
		{" ORDER BY n", []badStep{{" ORDER BY n, ^zz", api.ErrName}}},
		{" LIMIT :p", []badStep{{" LIMIT ^:zz", api.ErrParam}, {" LIMIT ^:r", api.ErrType}}},
	}
	n := 0
	together(clauses, []int{4, 5, 6, 7, 0, 1, 2, 3, 8, 9, 10}, func(s string, why api.Errno) {
		n++
		checks(t, c, s, why, params()...)
	})
	if n != 15552 {
		t.Error(n)
	}
}

// P11.3: likewise of one that is not grouped.
func TestFlawsWithoutGroups(t *testing.T) {
	c := made(t, tables)
	clauses := []clause{
		{"SELECT b, d", []badStep{{"SELECT b, d, ^zz", api.ErrName}, {"SELECT b, d, d ^|| b", api.ErrType}}},
		{"", []badStep{{", ^f AS b", api.ErrTable}}},
		{" FROM t", []badStep{{" FROM ^z", api.ErrName}}},
		{"", []badStep{{" WHERE ^d", api.ErrType}}},
		{"", []badStep{{" HAVING ^zz", api.ErrGroup}, {" HAVING b ^= 'x'", api.ErrGroup}, {" HAVING ^d", api.ErrGroup}}},
		{"", []badStep{{" ORDER BY ^zz", api.ErrName}}},
		{"", []badStep{{" LIMIT ^:s", api.ErrType}}},
	}
	together(clauses, []int{2, 3, 0, 4, 1, 5, 6}, func(s string, why api.Errno) { checks(t, c, s, why, params()...) })
}

// P11.3: of two errors of one kind the left one; From by From both errors of each, ahead of all Ons; On by On, item by item both errors of each.
func TestLeftOneFirst(t *testing.T) {
	c := made(t, tables)
	for s, why := range map[string]api.Errno{
		"SELECT a FROM ^y JOIN z ON TRUE": api.ErrName, "SELECT t.a FROM t JOIN ^t ON TRUE JOIN z ON TRUE": api.ErrTable, "SELECT t.a FROM t JOIN ^z ON TRUE JOIN t ON TRUE": api.ErrName, "SELECT t.a FROM t JOIN ^z AS t ON TRUE": api.ErrName,
		"SELECT t.a FROM t JOIN u ON zz JOIN ^z ON 1": api.ErrName, "SELECT t.a FROM t JOIN u ON 1 JOIN ^u ON TRUE": api.ErrTable,
		"SELECT t.a FROM t JOIN u ON ^1 JOIN u AS v ON zz": api.ErrType, "SELECT t.a FROM t JOIN u ON ^zz JOIN u AS v ON 1": api.ErrName,
		"SELECT 1 FROM t GROUP BY ^y, z": api.ErrName, "SELECT 1 FROM t GROUP BY a ^|| b, z": api.ErrType,
		"SELECT ^SUM(b), zz FROM t": api.ErrType, "SELECT ^zz, SUM(b) FROM t": api.ErrName, "SELECT SUM(^zz), SUM(b) FROM t": api.ErrName, "SELECT ^AVG(b), SUM(b) FROM t": api.ErrType, "SELECT a, COUNT(*), ^SUM(b) FROM t": api.ErrType,
		"SELECT COUNT(*), ^a, b FROM t": api.ErrGroup, "SELECT COUNT(*), COUNT(*), ^a FROM t": api.ErrGroup,
		"SELECT a, b, ^b, a FROM t": api.ErrTable, "SELECT a, ^a, b, b FROM t": api.ErrTable, "SELECT a, b, ^a, b FROM t": api.ErrTable,
		"SELECT a FROM t ORDER BY ^y, a, z": api.ErrName,
	} {
		checks(t, c, s, why)
	}
}

// P11.3: parameters that are columns, too: a name alone means a column, with a : a parameter.
func TestParametersAreNoColumns(t *testing.T) {
	c := made(t, tables)
	ps := []api.Col{col("a", api.Text), col("z", api.BigInt), {Of: "t", Name: "y", Type: api.BigInt}}
	checks(t, c, "SELECT a FROM t WHERE a = :z AND b = :a", api.OK, ps...)
	checks(t, c, "SELECT a FROM t WHERE a ^= :a", api.ErrType, ps...)
	checks(t, c, "SELECT a FROM t WHERE a = ^z", api.ErrName, ps...)
	checks(t, c, "SELECT a FROM t WHERE a = :y", api.OK, ps...)
	checks(t, c, "SELECT a FROM t WHERE a = ^t.y", api.ErrName, ps...)
	checks(t, c, "INSERT INTO t (a, b) VALUES (:z, ^b)", api.ErrName, ps...)
}
