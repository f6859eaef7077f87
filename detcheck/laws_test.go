package detcheck_test

import (
	"fmt"
	"slices"
	"strings"
	"testing"

	"lockstep/api"
	"lockstep/bag"
	"lockstep/catalog"
	"lockstep/detcheck"
	"lockstep/value"
)

// hasTie tells whether two rows of an answer are the same in all columns of Order.
func hasTie(x api.Stmt, answered []api.Col, rows []api.Row) bool {
	for i, a := range rows {
		for _, b := range rows[:i] {
			differ := slices.ContainsFunc(x.Order, func(o api.Order) bool {
				at := slices.IndexFunc(answered, func(c api.Col) bool { return c.Name == o.Name })
				return !value.Same(a[at], b[at])
			})
			if !differ {
				return true
			}
		}
	}
	return false
}

// ties is a SELECT's, over rows: whether it is settled, whether bag answers, and whether two rows of that are ordered alike.
func ties(t *testing.T, c *catalog.Catalog, d api.Data, s string, args api.Row) (bool, bool, bool) {
	t.Helper()
	x := stmt(t, s)
	is, why := detcheck.Settled(c, x, theParams())
	if why != api.OK {
		t.Fatalf("%s: %v", s, why)
	}
	rows, _, why := bag.Run(c, d, x, theParams(), args)
	answered, _ := c.Answer(x, theParams())
	return is, why == api.OK, hasTie(x, answered, rows)
}

// P17.5: of what a settled SELECT answers no two rows are ordered alike, over tables at random. (Of what is open some are.)
func TestNoTies(t *testing.T) {
	t.Parallel()
	m := newMaker(t, 175)
	seen := map[string]int{}
	var d api.Data
	for i := range 25000 {
		if i%10 == 0 {
			m.tables()
			d = m.data(8)
		}
		s := m.stmt()
		x := stmt(t, s)
		if _, why := m.c.Check(x, theParams()); why != api.OK || x.Kind != api.Select {
			continue
		}
		x.Limit = api.Expr{}
		rows, _, why := bag.Run(m.c, d, x, theParams(), m.args())
		is, _ := detcheck.Settled(m.c, x, theParams())
		answered, _ := m.c.Answer(x, theParams())
		tie := hasTie(x, answered, rows)
		if is && tie {
			t.Fatalf("%s\n%+v\n%v\nanswers %v", s, m.c.Tables(), d, rows)
		}
		switch {
		case why != api.OK:
			seen["errs"]++
		case is && len(rows) > 1:
			seen["settled, several rows"]++
		case is && len(rows) == 1:
			seen["settled, one row"]++
		case tie:
			seen["open, a tie"]++
		case !is:
			seen["open, none"]++
		}
	}
	for what, least := range map[string]int{"errs": 100, "settled, several rows": 1000, "settled, one row": 500, "open, a tie": 1000, "open, none": 100} {
		if seen[what] < least {
			t.Errorf("too few of %s: %d", what, seen[what])
		}
	}
}

// rowsInTheWay is such as are the same in most columns, NULLs among them.
func rowsInTheWay(t *testing.T) (*catalog.Catalog, api.Data) {
	c := made(t, "CREATE TABLE t (a BIGINT, b BIGINT, c BIGINT NOT NULL, d BIGINT, PRIMARY KEY (a), UNIQUE k (b, c), UNIQUE n (d), INDEX i (c)); CREATE TABLE u (k BIGINT, v BIGINT, PRIMARY KEY (k, v));")
	d := api.Data{
		{{num(1), num(1), num(1), {}}, {num(2), num(1), num(2), {}}, {num(3), {}, num(1), num(5)}, {num(4), {}, num(1), num(6)}, {num(5), num(2), num(1), {}}},
		{{num(1), num(1)}, {num(1), num(2)}, {num(2), num(1)}, {num(2), num(2)}},
	}
	if why := bag.Check(c, d); why != api.OK {
		t.Fatal(why)
	}
	return c, d
}

// P17.5: each reason for which a SELECT is open has rows that show it; each for which it is settled stands beside them.
func TestTies(t *testing.T) {
	c, d := rowsInTheWay(t)
	args := make(api.Row, len(theParams()))
	args[0] = num(1)
	for s, want := range map[string]bool{
		"SELECT c FROM t ORDER BY c":                                          false,
		"SELECT c FROM t WHERE a = :p ORDER BY c":                             true,
		"SELECT a FROM t ORDER BY a":                                          true,
		"SELECT a + 0 AS a, c FROM t ORDER BY c":                              false,
		"SELECT b, c FROM t ORDER BY b, c":                                    false, // b may be NULL
		"SELECT d FROM t ORDER BY d":                                          false,
		"SELECT c, b FROM t WHERE b = 1 ORDER BY b":                           false,
		"SELECT k FROM u ORDER BY k":                                          false,
		"SELECT v FROM u ORDER BY v":                                          false,
		"SELECT k, v FROM u ORDER BY v, k":                                    true,
		"SELECT v FROM u WHERE k = :p ORDER BY v":                             true,
		"SELECT v FROM u WHERE k = :p":                                        false,
		"SELECT k FROM u WHERE k = v":                                         false,
		"SELECT k FROM u WHERE k = v AND v = :p":                              true,
		"SELECT a FROM t JOIN u ON TRUE ORDER BY a":                           false,
		"SELECT a FROM t JOIN u ON k = 1 AND v = k ORDER BY a":                true,
		"SELECT x.a FROM t AS x JOIN t AS y ON TRUE ORDER BY a":               false,
		"SELECT x.a, y.a AS z FROM t AS x JOIN t AS y ON TRUE ORDER BY a":     false,
		"SELECT x.a, y.a AS z FROM t AS x JOIN t AS y ON TRUE ORDER BY z, a":  true,
		"SELECT COUNT(*) FROM t":                                              true,
		"SELECT COUNT(*) AS n FROM t WHERE a > 9 ORDER BY n":                  true,
		"SELECT COUNT(*) AS n FROM u GROUP BY k ORDER BY n":                   false,
		"SELECT k, COUNT(*) AS n FROM u GROUP BY k, v ORDER BY k":             false,
		"SELECT k, COUNT(*) AS n FROM u GROUP BY k ORDER BY k":                true,
		"SELECT COUNT(*) AS n FROM u WHERE k = 2 GROUP BY k":                  true,
		"SELECT COUNT(*) AS n FROM u WHERE k = 2 GROUP BY k, v":               false,
		"SELECT v, COUNT(*) AS n FROM u WHERE k = 2 GROUP BY k, v ORDER BY v": true,
		"SELECT MAX(v) AS v FROM u GROUP BY k ORDER BY v":                     false,
		"SELECT b, COUNT(*) FROM t GROUP BY b ORDER BY b":                     true,
		"SELECT DISTINCT c FROM t ORDER BY c":                                 true,
		"SELECT DISTINCT c, b FROM t ORDER BY c":                              false,
		"SELECT DISTINCT b, c FROM t ORDER BY c, b":                           true,
		"SELECT DISTINCT COUNT(*) AS n FROM u GROUP BY k ORDER BY n":          true,
		"SELECT DISTINCT COUNT(*) AS n, k FROM u GROUP BY k ORDER BY n":       false,
		"SELECT DISTINCT a, c FROM t":                                         false,
	} {
		is, answers, tie := ties(t, c, d, s, args)
		if is != want || !answers || tie == want {
			t.Errorf("%s: %v, answers %v, a tie %v", s, is, answers, tie)
		}
	}
}

// P17.6: a SELECT of one table that orders by items that are all columns of its primary key is settled, whatever else it has and whatever stands beside it.
func TestEnough(t *testing.T) {
	t.Parallel()
	m := newMaker(t, 176)
	for i := range 5000 {
		if i%20 == 0 {
			m.tables()
		}
		form := pick(m, m.c.Tables()...)
		own := scope(form, "x")
		var items, orders []string
		for _, col := range form.Keys[0].Cols {
			name := fmt.Sprint("k", col)
			items = append(items, m.name(own[col], own)+" AS "+name)
			orders = append(orders, name+pick(m, "", " DESC", " ASC"))
		}
		for n := range m.Intn(4) {
			items = append(items, m.term(own)+fmt.Sprint(" AS n", n))
			if m.one(2) {
				orders = append(orders, fmt.Sprint("n", n))
			}
		}
		m.Shuffle(len(items), func(i, k int) { items[i], items[k] = items[k], items[i] })
		m.Shuffle(len(orders), func(i, k int) { orders[i], orders[k] = orders[k], orders[i] })
		s := "SELECT " + pick(m, "", "", "DISTINCT ") + strings.Join(items, ", ") + " FROM " + form.Name + " AS x" + pick(m, "", " WHERE "+m.condition(1+m.Intn(3), own, own)) + " ORDER BY " + strings.Join(orders, ", ") + pick(m, "", " LIMIT 3")
		settles(t, m.c, s, true)
	}
}

// split is the rows of tables that belong to a value's partition, and stand whole, and the others.
func split(c *catalog.Catalog, d api.Data, of api.Value) (api.Data, api.Data) {
	in, out := make(api.Data, len(d)), make(api.Data, len(d))
	for i, form := range c.Tables() {
		for _, r := range d[i] {
			if form.Part < 0 || value.Same(r[form.Part], of) {
				in[i] = append(in[i], r)
			} else {
				out[i] = append(out[i], r)
			}
		}
	}
	return in, out
}

// both is rows of both tables.
func both(a, b api.Data) api.Data {
	out := make(api.Data, len(a))
	for i := range a {
		out[i] = slices.Concat(a[i], b[i])
	}
	return out
}

// looksAway tells whether a statement answers the same with and without the rows that are not of a value's partition, and leaves these as they are.
func looksAway(c *catalog.Catalog, d api.Data, x api.Stmt, args api.Row, of api.Value) bool {
	in, out := split(c, d, of)
	all, behind, why := bag.Run(c, d, x, theParams(), args)
	one, alone, also := bag.Run(c, in, x, theParams(), args)
	if why != also || !slices.EqualFunc(all, one, func(a, b api.Row) bool { return value.Rows(a, b) == 0 }) {
		return false
	}
	return why != api.OK || x.Kind == api.Select || bag.Same(behind, both(alone, out))
}

// P17.7: a statement that stays in by's partition looks at, and changes, no row of another one, over tables at random, also where its rows err. (Many that leave it do.)
func TestSingleLooksAway(t *testing.T) {
	t.Parallel()
	m := newMaker(t, 177)
	seen := map[string]int{}
	var d api.Data
	for i := range 12000 {
		if i%10 == 0 {
			m.tables()
			d = m.data(8)
		}
		s := m.stmt()
		x := stmt(t, s)
		if _, why := m.c.Check(x, theParams()); why != api.OK {
			continue
		}
		args := m.args()
		other := m.Intn(len(args))
		for n, by := range theParams() {
			is, _ := detcheck.Single(m.c, x, theParams(), by.Name)
			if !is && n != other {
				continue
			}
			away := looksAway(m.c, d, x, args, args[n])
			if is && !away {
				t.Fatalf("%s by %s\n%+v\n%v beside %v", s, by.Name, m.c.Tables(), d, args)
			}
			in, out := split(m.c, d, args[n])
			if !slices.ContainsFunc(out, func(rows []api.Row) bool { return len(rows) > 0 }) {
				continue
			}
			if _, _, why := bag.Run(m.c, in, x, theParams(), args); why == api.OK {
				seen[fmt.Sprintf("%d %v %v", x.Kind, is, away)]++
			}
		}
	}
	for kind := api.Select; kind <= api.Delete; kind++ {
		wanted := []string{"true true", "false false"}
		if kind == api.Insert { // it changes no row that is there
			wanted = wanted[:1]
		}
		for _, what := range wanted {
			if what := fmt.Sprintf("%d %s", kind, what); seen[what] < 50 {
				t.Errorf("too few of %s: %d", what, seen[what])
			}
		}
	}
}

// P17.7: each reason for which a statement leaves has rows that show it; each for which it stays stands beside them.
func TestRowsOfOthers(t *testing.T) {
	c := made(t, "CREATE TABLE t (a BIGINT, b BIGINT, d DECIMAL, PRIMARY KEY (a, b)) PARTITION BY a; CREATE TABLE u (e BIGINT, g BIGINT, PRIMARY KEY (e, g)) PARTITION BY g; CREATE TABLE r (k BIGINT, v BIGINT, PRIMARY KEY (k));")
	d := api.Data{
		{{num(1), num(2), dec(10000)}, {num(2), num(1), dec(20000)}},
		{{num(1), num(2)}, {num(1), num(1)}, {num(2), num(1)}, {num(2), num(2)}},
		{{num(0), num(1)}, {num(1), num(2)}, {num(2), num(2)}},
	}
	// The tables stand by their names.
	d[0], d[1], d[2] = d[2], d[0], d[1]
	if why := bag.Check(c, d); why != api.OK {
		t.Fatal(why)
	}
	args := make(api.Row, len(theParams()))
	args[0] = num(1)
	for s, want := range map[string]bool{
		"SELECT b FROM t WHERE a = :p":                                   true,
		"SELECT 1 / (a - 2) AS n FROM t WHERE a = :p":                    true,
		"SELECT b FROM t WHERE 1 / (a - 2) = -1 AND a = :p":              true,
		"SELECT b FROM t":                                                false,
		"SELECT COUNT(*) FROM t":                                         false,
		"SELECT b FROM t WHERE b = :p":                                   false,
		"SELECT b FROM t WHERE a = :p OR b = :p":                         false,
		"SELECT b FROM t JOIN r ON k = b WHERE a = :p":                   true,
		"SELECT b FROM t JOIN r ON k = b WHERE k = :p":                   false,
		"SELECT v FROM r":                                                true,
		"SELECT b FROM t JOIN u ON g = a WHERE a = :p":                   true,
		"SELECT b FROM t JOIN u ON g = a WHERE g = :p":                   true,
		"SELECT b FROM t JOIN u ON g = b WHERE a = :p":                   false,
		"SELECT b FROM t JOIN u ON e = a WHERE a = :p":                   false,
		"SELECT b FROM t JOIN u ON g = e WHERE e = :p AND a = e":         true,
		"SELECT b FROM t JOIN u ON TRUE WHERE g = :p":                    false,
		"SELECT x.b FROM t AS x JOIN t AS y ON x.a = y.b WHERE y.b = :p": false,
		"SELECT x.b FROM t AS x JOIN t AS y ON x.a = y.a WHERE y.a = :p": true,
		"UPDATE t SET d = 0 WHERE a = :p":                                true,
		"UPDATE t SET d = 1 / (a - 2) WHERE a = :p":                      true,
		"UPDATE t SET d = 0 WHERE b = :p":                                false,
		"UPDATE t SET b = 7 WHERE a = :p":                                true,
		"UPDATE t SET b = 7":                                             false,
		"DELETE FROM t WHERE a = :p":                                     true,
		"DELETE FROM t WHERE a <> :p":                                    false,
		"DELETE FROM u WHERE e = :p":                                     false,
		"DELETE FROM u WHERE e = :p AND g = e":                           true,
		"INSERT INTO t (a, b) VALUES (:p, 1)":                            true,
		"INSERT INTO t (a, b) VALUES (:p, 2)":                            true, // ErrTwice in both
		"INSERT INTO t (a, b) VALUES (2, 1)":                             false,
	} {
		x := stmt(t, s)
		stays(t, c, s, "p", want)
		if looksAway(c, d, x, args, num(1)) != want {
			t.Errorf("%s: looks at others' rows %v", s, want)
		}
	}
}
