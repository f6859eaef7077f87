package catalog_test

import (
	"strings"
	"testing"

	"lockstep/api"
)

// P11.4: the columns of a SELECT are its items'; of another statement one, named count.
func TestAnswers(t *testing.T) {
	c := made(t, tables)
	count := []api.Col{col("count", api.BigInt)}
	for s, want := range map[string][]api.Col{
		"SELECT a, b, d, f FROM t":                                                          {col("a", api.BigInt), col("b", api.Text), col("d", api.Dec), col("f", api.Bool)},
		"SELECT t.a, x.a AS n FROM t JOIN t AS x ON TRUE":                                   {col("a", api.BigInt), col("n", api.BigInt)},
		"SELECT 1, 1.0, 'x', TRUE, NULL FROM t":                                             {col("", api.BigInt), col("", api.Dec), col("", api.Text), col("", api.Bool), col("", 0)},
		"SELECT :p, :q, :r, :s AS p FROM t":                                                 {col("", api.BigInt), col("", api.Dec), col("", api.Text), col("p", api.Bool)},
		"SELECT a + 1, a + d AS n, b || 'x', NOT f FROM t":                                  {col("", api.BigInt), col("n", api.Dec), col("", api.Text), col("", api.Bool)},
		"SELECT NULL AS x, COALESCE(NULL, NULL), CASE WHEN f THEN NULL ELSE 1 END FROM t":   {col("x", 0), col("", 0), col("", api.BigInt)},
		"SELECT -a, -d, a = 1, LENGTH(b), CAST(a AS VARCHAR(3)) AS v FROM t":                {col("", api.BigInt), col("", api.Dec), col("", api.Bool), col("", api.BigInt), col("v", api.Text)},
		"SELECT COUNT(*), COUNT(b) AS n, COUNT(DISTINCT f) AS m, COUNT(NULL) AS o FROM t":   {col("count", api.BigInt), col("n", api.BigInt), col("m", api.BigInt), col("o", api.BigInt)},
		"SELECT SUM(a), SUM(d) AS x, SUM(NULL) AS y, SUM(DISTINCT a) AS z FROM t":           {col("sum", api.BigInt), col("x", api.Dec), col("y", 0), col("z", api.BigInt)},
		"SELECT AVG(a), AVG(d) AS x, AVG(NULL) AS y, AVG(DISTINCT a) AS z FROM t":           {col("avg", api.Dec), col("x", api.Dec), col("y", api.Dec), col("z", api.Dec)},
		"SELECT MIN(a), MIN(b) AS x, MIN(d) AS y, MIN(f) AS z, MIN(NULL) AS n FROM t":       {col("min", api.BigInt), col("x", api.Text), col("y", api.Dec), col("z", api.Bool), col("n", 0)},
		"SELECT MAX(a), MAX(b) AS x, MAX(d) AS y, MAX(f) AS z, MAX(DISTINCT b) AS n FROM t": {col("max", api.BigInt), col("x", api.Text), col("y", api.Dec), col("z", api.Bool), col("n", api.Text)},
		"SELECT b, COUNT(*) AS \"count\", 7 FROM t GROUP BY b HAVING TRUE LIMIT 1":          {col("b", api.Text), col("count", api.BigInt), col("", api.BigInt)},
		"SELECT a, AVG(d) FROM t GROUP BY a":                                                {col("a", api.BigInt), col("avg", api.Dec)},
		"INSERT INTO t (a) VALUES (:p)":                                                     count,
		"UPDATE t SET b = 'x' WHERE f":                                                      count,
		"DELETE FROM t":                                                                     count,
		"DELETE FROM u WHERE a = :p":                                                        count,
	} {
		if got, why := c.Answer(stmt(t, s), params()); !alike(got, want) || why != api.OK {
			t.Errorf("%s: %v %v, not %v", s, got, why, want)
		}
	}
	wide := "SELECT " + strings.Repeat("'x', ", 15) + "1.5 AS z FROM t"
	if got, why := c.Answer(stmt(t, wide), nil); len(got) != 16 || got[15] != col("z", api.Dec) || got[14] != col("", api.Text) || why != api.OK {
		t.Error(got, why)
	}
}

// P11.4: with an error Answer tells no columns. (That it is Check's, all tests of Check look at.)
func TestNoAnswer(t *testing.T) {
	c := made(t, tables)
	for s, want := range map[string]api.Errno{"SELECT a, a FROM t": api.ErrTable, "SELECT a FROM t LIMIT :z": api.ErrParam, "SELECT a FROM z": api.ErrName, "DELETE FROM t WHERE a": api.ErrType, "UPDATE t SET a = 1": api.ErrPart, "SELECT a FROM t HAVING TRUE": api.ErrGroup, "INSERT INTO t (a, b) VALUES (1)": api.ErrArg} {
		if got, why := c.Answer(stmt(t, s), nil); len(got) != 0 || why != want {
			t.Errorf("%s: %v %v, not %v", s, got, why, want)
		}
	}
}

// ofTable is the columns of one of the tables, under a name.
func ofTable(table, as string) []api.Col {
	if table == "t" {
		return []api.Col{{Of: as, Name: "a", Type: api.BigInt}, {Of: as, Name: "b", Type: api.Text}, {Of: as, Name: "d", Type: api.Dec}, {Of: as, Name: "f", Type: api.Bool}}
	}
	return []api.Col{{Of: as, Name: "a", Type: api.BigInt}, {Of: as, Name: "e", Type: api.Text}, {Of: as, Name: "g", Type: api.Dec}, {Of: as, Name: "h", Type: api.Bool}}
}

// P11.4: the scope of each statement, also of one that is wrong elsewhere.
func TestScopes(t *testing.T) {
	c := made(t, tables)
	join := func(l ...[]api.Col) []api.Col {
		var all []api.Col
		for _, x := range l {
			all = append(all, x...)
		}
		return all
	}
	for s, want := range map[string][]api.Col{
		"SELECT a FROM t":                ofTable("t", "t"),
		"SELECT a FROM t AS x":           ofTable("t", "x"),
		"SELECT z FROM u AS t WHERE 1":   ofTable("u", "t"),
		"SELECT a FROM u JOIN t ON TRUE": join(ofTable("u", "u"), ofTable("t", "t")),
		"SELECT a FROM t AS u JOIN u AS \"A b\" ON z JOIN t ON 1 JOIN u AS x ON NULL": join(ofTable("t", "u"), ofTable("u", "A b"), ofTable("t", "t"), ofTable("u", "x")),
		"SELECT a FROM t JOIN t ON TRUE":                                              join(ofTable("t", "t"), ofTable("t", "t")),
		"SELECT COUNT(*), a FROM u LIMIT :no":                                         ofTable("u", "u"),
		"UPDATE t SET a = 1":                                                          ofTable("t", "t"),
		"UPDATE u SET zz = yy WHERE 1":                                                ofTable("u", "u"),
		"DELETE FROM t":                                                               ofTable("t", "t"),
		"DELETE FROM u WHERE :no":                                                     ofTable("u", "u"),
		"INSERT INTO t (a) VALUES (1)":                                                nil,
		"INSERT INTO u (z, z) VALUES (zz)":                                            nil,
	} {
		if got, why := c.Scope(stmt(t, s)); !alike(got, want) || why != api.OK {
			t.Errorf("%s: %v %v, not %v", s, got, why, want)
		}
	}
}

// P11.4: no scope, where there is no table of one of the names.
func TestNoScope(t *testing.T) {
	c := made(t, tables+"CREATE PROCEDURE w () AS BEGIN DELETE FROM t; END;")
	for _, s := range []string{
		"SELECT a FROM z", "SELECT a FROM z AS t", "SELECT a FROM t JOIN z ON TRUE", "SELECT a FROM z JOIN t ON TRUE", "SELECT a FROM t JOIN u ON TRUE JOIN t AS x ON TRUE JOIN x ON TRUE", "SELECT a FROM w", "SELECT a FROM \"T\"", "SELECT a FROM t JOIN t ON TRUE JOIN z ON TRUE",
		"INSERT INTO z (a) VALUES (1)", "INSERT INTO w (a) VALUES (1)", "UPDATE z SET a = 1", "UPDATE \"T\" SET a = 1", "DELETE FROM z", "DELETE FROM w WHERE TRUE",
	} {
		if got, why := c.Scope(stmt(t, s)); len(got) != 0 || why != api.ErrName {
			t.Errorf("%s: %v %v", s, got, why)
		}
	}
}

// P11.3, P11.4: what plays no part in a statement changes nothing, however wrong, or endless, it is.
func TestWhatPlaysNoPart(t *testing.T) {
	c := made(t, tables)
	endless := []api.Expr{{Op: "not", At: 99}}
	endless[0].Parts = endless
	junk := api.Expr{Op: "and", Parts: endless, Name: "zz", Of: "zz", Type: 9, Value: api.Value{Type: 9}, At: 99}
	none := junk
	none.Op = ""
	fill := func(x api.Stmt) api.Stmt { // with what only other kinds of statements have
		y := api.Stmt{Kind: x.Kind, Distinct: true, Items: []api.Item{{Expr: junk}}, From: []api.From{{Table: "zz", On: junk}}, Where: junk, Group: endless, Having: junk, Order: []api.Order{{Name: "zz"}}, Limit: junk, Table: "zz", Cols: []string{"zz"}, Values: endless, Sets: []api.Set{{Name: "zz", Expr: junk}}, At: x.At}
		switch x.Kind {
		case api.Select:
			y.Distinct, y.Items, y.From, y.Where, y.Group, y.Having, y.Order, y.Limit = x.Distinct, x.Items, x.From, none, x.Group, none, x.Order, none
			y.From[0].On = junk
			for i := range y.Items {
				y.Items[i] = fillItem(y.Items[i], junk)
			}
		case api.Insert:
			y.Table, y.Cols, y.Values = x.Table, x.Cols, x.Values
		case api.Update:
			y.Table, y.Sets, y.Where = x.Table, x.Sets, none
		case api.Delete:
			y.Table, y.Where = x.Table, none
		}
		return y
	}
	for _, s := range []string{
		"SELECT a, b AS x, NULL FROM t", "SELECT COUNT(*), MAX(a) FROM t JOIN u ON TRUE", "SELECT 1, COUNT(*) FROM t GROUP BY a", "SELECT COUNT(*), COUNT(DISTINCT b) AS n FROM t", "SELECT t.a, COUNT(*) FROM t", "SELECT zz FROM t", "SELECT a FROM z",
		"INSERT INTO t (a) VALUES (1)", "INSERT INTO t (a) VALUES ('x')", "UPDATE t SET b = 'x'", "UPDATE t SET a = 1", "DELETE FROM t", "DELETE FROM z",
	} {
		x := stmt(t, s)
		y := fill(stmt(t, s))
		at, why := c.Check(x, nil)
		if got, also := c.Check(y, nil); got != at || also != why {
			t.Errorf("%s: %d %v, not %d %v", s, got, also, at, why)
		}
		cols, why := c.Answer(x, nil)
		if got, also := c.Answer(y, nil); !alike(got, cols) || also != why {
			t.Errorf("%s: %v %v, not %v %v", s, got, also, cols, why)
		}
		cols, why = c.Scope(x)
		if got, also := c.Scope(y); !alike(got, cols) || also != why {
			t.Errorf("%s: %v %v, not %v %v", s, got, also, cols, why)
		}
	}
}

// fillItem is an item with what plays no part in it.
func fillItem(m api.Item, junk api.Expr) api.Item {
	switch {
	case m.Agg == "":
		m.Star, m.Distinct = true, true
	case m.Star:
		m.Distinct, m.Expr = true, junk
	}
	switch m.Expr.Op {
	case "column":
		m.Expr.Value, m.Expr.Type = api.Value{Type: 9}, 9
	case "value":
		m.Expr.Name, m.Expr.Of, m.Expr.Type = "zz", "zz", 9
	}
	return m
}
