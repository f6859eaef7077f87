package catalog_test

import (
	"fmt"
	"slices"
	"strings"
	"testing"

	"lockstep/api"
	"lockstep/catalog"
)

// P11.3: INSERT, UPDATE and DELETE in which nothing is wrong.
func TestChangesThatFit(t *testing.T) {
	c := made(t, tables)
	for _, s := range []string{
		"INSERT INTO t (a) VALUES (1)", "INSERT INTO t (a, d) VALUES (:p, 1)", "INSERT INTO t (d, f, b, a) VALUES (1.5, TRUE, 'x', 1 + :p)", "INSERT INTO t (f, b) VALUES (NULL, NULL)", "INSERT INTO t (b) VALUES ('longer than three')", "INSERT INTO u (h) VALUES (1 = 2)", "INSERT INTO t (d) VALUES (:q / :p)", "INSERT INTO t (a) VALUES (COALESCE(NULL, NULL))", "INSERT INTO t (b) VALUES (CAST(1 AS VARCHAR(1)))",
		"UPDATE t SET b = 'x'", "UPDATE t SET b = b || 'x', d = a, f = NOT f WHERE a = :p", "UPDATE t SET b = NULL, d = NULL, f = NULL WHERE NULL", "UPDATE t SET d = t.a * 2, b = :r WHERE t.f", "UPDATE u SET a = a + 1, e = 'x', g = 1", "UPDATE u SET g = a", "UPDATE u SET a = NULL",
		"DELETE FROM t", "DELETE FROM t WHERE a = 1", "DELETE FROM t WHERE t.b = :r OR f", "DELETE FROM u WHERE NULL", "DELETE FROM u WHERE h",
	} {
		checks(t, c, s, api.OK, params()...)
	}
}

// P11.3: each error of an INSERT alone, at its place.
func TestWrongInserts(t *testing.T) {
	c := made(t, tables)
	for s, why := range map[string]api.Errno{
		"^INSERT INTO z (a) VALUES (1)": api.ErrName, " ^INSERT INTO \"T\" (a) VALUES (1)": api.ErrName,
		"^INSERT INTO t (a) VALUES (1, 2)": api.ErrArg, "\n^INSERT INTO t (a, b) VALUES (1)": api.ErrArg, "^INSERT INTO t (a, b, d) VALUES (1, 'x')": api.ErrArg,
		"/**/ ^INSERT INTO t (z) VALUES (1)": api.ErrName, "^INSERT INTO t (a, e) VALUES (1, 'x')": api.ErrName, "^INSERT INTO t (\"A\") VALUES (1)": api.ErrName,
		"  ^INSERT INTO t (a, a) VALUES (1, 2)": api.ErrTable, "^INSERT INTO t (b, a, d, a) VALUES ('x', 1, 2, 3)": api.ErrTable,
		"INSERT INTO t (a) VALUES (^a)": api.ErrName, "INSERT INTO t (a) VALUES (^t.a)": api.ErrName, "INSERT INTO t (a, d) VALUES (1, ^a)": api.ErrName, "INSERT INTO t (a) VALUES (^:z)": api.ErrParam, "INSERT INTO t (a, b) VALUES (1, 'x' ^+ 1)": api.ErrType,
		"INSERT INTO t (a) VALUES (^'x')": api.ErrType, "INSERT INTO t (a) VALUES (1 ^+ 1.0)": api.ErrType, "INSERT INTO t (a, b) VALUES (1, ^:p)": api.ErrType, "INSERT INTO t (b, a) VALUES (^1, 1)": api.ErrType, "INSERT INTO t (a, f) VALUES (1, ^CASE WHEN TRUE THEN 1 ELSE 2 END)": api.ErrType, "INSERT INTO t (a) VALUES (^CAST(NULL AS VARCHAR(3)))": api.ErrType,
	} {
		checks(t, c, s, why, params()...)
	}
}

// P11.3: each error of an UPDATE and a DELETE alone, at its place.
func TestWrongUpdates(t *testing.T) {
	c := made(t, tables)
	for s, why := range map[string]api.Errno{
		"^UPDATE z SET a = 1": api.ErrName, " ^UPDATE \"T\" SET a = 1": api.ErrName,
		"UPDATE t SET ^z = 1": api.ErrName, "UPDATE t SET b = '', ^e = ''": api.ErrName, "UPDATE t SET ^\"B\" = 'x'": api.ErrName,
		"UPDATE t SET b = 'x', ^b = 'y'": api.ErrTable, "UPDATE t SET b = 'x', d = 1, ^b = 'y', d = 2": api.ErrTable,
		"UPDATE t SET ^a = 1": api.ErrPart, "UPDATE t SET b = '', ^a = a": api.ErrPart, "UPDATE t SET ^a = NULL WHERE FALSE": api.ErrPart,
		"UPDATE t SET d = ^z": api.ErrName, "UPDATE t SET d = ^u.a": api.ErrName, "UPDATE t SET d = ^:z": api.ErrParam, "UPDATE t SET b = b ^+ 1": api.ErrType,
		"UPDATE t SET b = ^1": api.ErrType, "UPDATE u SET a = a ^+ g": api.ErrType, "UPDATE t SET f = ^b": api.ErrType, "UPDATE t SET d = ^f": api.ErrType, "UPDATE t SET b = ^:p": api.ErrType,
		"UPDATE t SET b = '' WHERE ^z": api.ErrName, "UPDATE t SET b = '' WHERE ^u.a = 1": api.ErrName, "UPDATE t SET b = '' WHERE a ^= 'x'": api.ErrType, "UPDATE t SET b = '' WHERE a = ^:z": api.ErrParam, "UPDATE t SET b = '' WHERE ^a": api.ErrType, "UPDATE t SET b = '' WHERE ^'x'": api.ErrType,
		"^DELETE FROM z": api.ErrName, " ^DELETE FROM \"T\" WHERE TRUE": api.ErrName, "DELETE FROM t WHERE ^z": api.ErrName, "DELETE FROM t WHERE ^u.a = 1": api.ErrName, "DELETE FROM t WHERE a = ^:z": api.ErrParam, "DELETE FROM t WHERE f ^= 1": api.ErrType, "DELETE FROM t WHERE ^a": api.ErrType, "DELETE FROM t WHERE ^:q": api.ErrType, "DELETE FROM t WHERE ^b": api.ErrType,
	} {
		checks(t, c, s, why, params()...)
	}
}

// P11.3: the column of the partition alone can't be set; where there is none, each can.
func TestSettingKeys(t *testing.T) {
	c := made(t, "CREATE TABLE t (a BIGINT, b BIGINT, c BIGINT, PRIMARY KEY (a, b)) PARTITION BY b; CREATE TABLE u (a BIGINT, PRIMARY KEY (a));")
	checks(t, c, "UPDATE t SET a = 1, c = 2", api.OK)
	checks(t, c, "UPDATE t SET a = 1, ^b = 2", api.ErrPart)
	checks(t, c, "UPDATE u SET a = 1", api.OK)
}

// P11.3: a type fits a column, if it is 0, the column's, or BigInt of a Dec one: of INSERT, of UPDATE.
func TestTypesThatFit(t *testing.T) {
	c := made(t, "CREATE TABLE w (k BIGINT, n BIGINT, d DECIMAL, v VARCHAR(1), f BOOLEAN, PRIMARY KEY (k));")
	cols := []string{"", "n", "d", "v", "f"}
	values := []string{"NULL", "1", "1.0", "'x'", "TRUE"}
	named := []string{"NULL", ":p", ":q", ":r", ":s"}
	for to := api.BigInt; to <= api.Bool; to++ {
		for typ := api.Null; typ <= api.Bool; typ++ {
			for _, e := range []string{values[typ], named[typ]} {
				why, mark := api.OK, ""
				if !(typ == api.Null || typ == to || typ == api.BigInt && to == api.Dec) {
					why, mark = api.ErrType, "^"
				}
				checks(t, c, "INSERT INTO w (k, "+cols[to]+") VALUES (1, "+mark+e+")", why, params()...)
				checks(t, c, "UPDATE w SET k = 1, "+cols[to]+" = "+mark+e, why, params()...)
			}
		}
	}
}

// P11.3: of several errors of an INSERT the first one, by the order of the chapter.
func TestFlawsOfInserts(t *testing.T) {
	c := made(t, tables)
	clauses := []clause{
		{"INSERT INTO t", []badStep{{"^INSERT INTO z", api.ErrName}}},
		{" (a, b, d, f) VALUES (1, 'x'", []badStep{
			{" (a, b, d, f) VALUES (1, 'x', NULL", api.ErrArg}, // without a mark: at the statement, which stands at 0
			{" (a, b, d, z) VALUES (1, 'x'", api.ErrName},
			{" (a, b, b, z) VALUES (1, 'x'", api.ErrName},
			{" (a, b, b, b) VALUES (1, 'x'", api.ErrTable},
		}},
		{", 2", []badStep{{", ^zz", api.ErrName}, {", ^'x'", api.ErrType}}},
		{", TRUE", []badStep{{", ^:zz", api.ErrParam}, {", ^3.0", api.ErrType}}},
		{")", nil},
	}
	together(clauses, []int{0, 1, 2, 3, 4}, func(s string, why api.Errno) { checks(t, c, s, why) })
	checks(t, c, "^INSERT INTO t (z, z) VALUES (1)", api.ErrArg)
	checks(t, c, "^INSERT INTO t (a, a, z) VALUES (1, 2, 3)", api.ErrName)
	checks(t, c, "^INSERT INTO t (a, a) VALUES (zz, 'x')", api.ErrTable)
	checks(t, c, "INSERT INTO t (a, b) VALUES (^'x', zz)", api.ErrType)
}

// P11.3: likewise of an UPDATE: Set by Set, then its condition; and of a DELETE.
func TestFlawsOfUpdates(t *testing.T) {
	c := made(t, tables)
	set := func(good, name, twice, zz, typ string) clause {
		return clause{good, []badStep{{"^nn = " + zz, api.ErrName}, {twice, api.ErrTable}, {"^a = " + zz, api.ErrPart}, {name + " = ^" + zz, api.ErrName}, {name + " = ^" + typ, api.ErrType}}}
	}
	clauses := []clause{
		{"UPDATE t SET b = '', ", []badStep{{"^UPDATE z SET b = '', ", api.ErrName}}},
		set("d = 1", "d", "^b = zz", "zz", "'x'"),
		{", ", nil},
		set("f = TRUE", "f", "^b = 1", "yy", "1"),
		{" WHERE f", []badStep{{" WHERE ^zz", api.ErrName}, {" WHERE ^a", api.ErrType}}},
	}
	together(clauses, []int{0, 1, 3, 4, 2}, func(s string, why api.Errno) { checks(t, c, s, why) })
	checks(t, c, "UPDATE t SET ^a = 1, a = 1", api.ErrPart)
	checks(t, c, "UPDATE t SET ^zz = 1, zz = 1", api.ErrName)
	checks(t, c, "UPDATE t SET b = ^1, b = 1", api.ErrType)
	checks(t, c, "UPDATE t SET b = ^zz, a = 1 WHERE 1", api.ErrName)
	checks(t, c, "^DELETE FROM z WHERE 1", api.ErrName)
}

// P11.3: as many columns and Sets as there may be.
func TestWideChanges(t *testing.T) {
	var elems, names, values, sets []string
	for i := range 16 {
		elems = append(elems, fmt.Sprintf("c%d BIGINT", i))
		names = append(names, fmt.Sprintf("c%d", 15-i))
		values = append(values, fmt.Sprint(i))
		sets = append(sets, fmt.Sprintf("c%d = c%d", i, 15-i))
	}
	c := made(t, "CREATE TABLE w ("+strings.Join(elems, ", ")+", PRIMARY KEY (c0));")
	checks(t, c, "INSERT INTO w ("+strings.Join(names, ", ")+") VALUES ("+strings.Join(values, ", ")+")", api.OK)
	checks(t, c, "UPDATE w SET "+strings.Join(sets, ", "), api.OK)
	names[15] = names[0]
	checks(t, c, "^INSERT INTO w ("+strings.Join(names, ", ")+") VALUES ("+strings.Join(values, ", ")+")", api.ErrTable)
	sets[15] = "^" + sets[0]
	checks(t, c, "UPDATE w SET "+strings.Join(sets, ", "), api.ErrTable)
}

// unwritableStmts is statements that can't be written, each for a reason of its own; all of a table t, with places.
func unwritableStmts(t *testing.T) map[string]api.Stmt {
	l := map[string]api.Stmt{"nothing": {}, "kind 5": {Kind: 5, Table: "t"}, "kind -1": {Kind: -1, Table: "t"}, "a SELECT of nothing": {Kind: api.Select}}
	add := func(why, s string, change func(x *api.Stmt)) {
		x := stmt(t, "  "+s)
		change(&x)
		l[why] = x
	}
	sel, ins, upd := "SELECT a, COUNT(*) FROM t JOIN t AS x ON TRUE WHERE f GROUP BY a HAVING TRUE ORDER BY a LIMIT 1", "INSERT INTO t (a) VALUES (1)", "UPDATE t SET b = 'x' WHERE f"
	add("no items", sel, func(x *api.Stmt) { x.Items = nil })
	add("17 items", sel, func(x *api.Stmt) { x.Items = slices.Repeat(x.Items[:1], 17) })
	add("an item of an Op that is none", sel, func(x *api.Stmt) { x.Items[0].Expr.Op = "x" })
	add("an agg that is none", sel, func(x *api.Stmt) { x.Items[1].Agg = "median" })
	add("a SUM of rows", sel, func(x *api.Stmt) { x.Items[1].Agg = "sum" })
	add("an item whose name is none", sel, func(x *api.Stmt) { x.Items[0].Name = "\x00" })
	add("no tables", sel, func(x *api.Stmt) { x.From = nil })
	add("five tables", sel, func(x *api.Stmt) { x.From = slices.Repeat(x.From[1:], 5) })
	add("a table without a name", sel, func(x *api.Stmt) { x.From[0].Table = "" })
	add("a table under no name", sel, func(x *api.Stmt) { x.From[0].As = "" })
	add("no On", sel, func(x *api.Stmt) { x.From[1].On = api.Expr{} })
	add("a Where of no Parts", sel, func(x *api.Stmt) { x.Where = api.Expr{Op: "not"} })
	add("a Group that is none", sel, func(x *api.Stmt) { x.Group[0] = api.Expr{} })
	add("a Having of too many", sel, func(x *api.Stmt) {
		x.Having = api.Expr{Op: "in", Parts: slices.Repeat([]api.Expr{{Op: "value"}}, 66)}
	})
	add("an Order without a name", sel, func(x *api.Stmt) { x.Order[0].Name = "" })
	add("17 Orders", sel, func(x *api.Stmt) { x.Order = slices.Repeat(x.Order, 17) })
	add("a Limit that is a column", sel, func(x *api.Stmt) { x.Limit = x.Group[0] })
	add("a Limit that is NULL", sel, func(x *api.Stmt) { x.Limit = api.Expr{Op: "value"} })
	add("a Limit below 0", sel, func(x *api.Stmt) { x.Limit.Value.Int = -1 })
	add("a Limit that is a DECIMAL", sel, func(x *api.Stmt) { x.Limit.Value.Type = api.Dec })
	add("a parameter that is no word", sel, func(x *api.Stmt) { x.Limit = api.Expr{Op: "param", Name: "A"} })
	add("257 expressions", sel, func(x *api.Stmt) { x.Where = stmt(t, "DELETE FROM t WHERE "+deep(126)+" = 1").Where })
	add("no such value", sel, func(x *api.Stmt) { x.Where = api.Expr{Op: "value", Value: api.Value{Type: api.Bool, Int: 2}} })
	add("no Cols", ins, func(x *api.Stmt) { x.Cols = nil })
	add("no Values", ins, func(x *api.Stmt) { x.Values = nil })
	add("17 of both", ins, func(x *api.Stmt) { x.Cols, x.Values = slices.Repeat(x.Cols, 17), slices.Repeat(x.Values, 17) })
	add("an INSERT of no table", ins, func(x *api.Stmt) { x.Table = "" })
	add("a Col without a name", ins, func(x *api.Stmt) { x.Cols[0] = "" })
	add("a Value that is none", ins, func(x *api.Stmt) { x.Values[0].Op = "" })
	add("no Sets", upd, func(x *api.Stmt) { x.Sets = nil })
	add("an UPDATE of no table", upd, func(x *api.Stmt) { x.Table = strings.Repeat("t", 33) })
	add("a Set without a name", upd, func(x *api.Stmt) { x.Sets[0].Name = "" })
	add("a Set of nothing", upd, func(x *api.Stmt) { x.Sets[0].Expr = api.Expr{} })
	add("a DELETE of no table", "DELETE FROM t", func(x *api.Stmt) { x.Table = "" })
	return l
}

// P11.3, P11.4: what can't be written is ErrArg at 0, whatever else is wrong, by all who are asked.
func TestUnwritableStmts(t *testing.T) {
	c := made(t, tables)
	for why, x := range unwritableStmts(t) {
		for _, c := range []*catalog.Catalog{c, nil} {
			for _, params := range [][]api.Col{nil, params(), {{}}} {
				if at, got := c.Check(x, params); at != 0 || got != api.ErrArg {
					t.Errorf("%s: %d %v", why, at, got)
				}
				if cols, got := c.Answer(x, params); len(cols) != 0 || got != api.ErrArg {
					t.Errorf("%s: %v %v", why, cols, got)
				}
			}
			if cols, got := c.Scope(x); len(cols) != 0 || got != api.ErrArg {
				t.Errorf("%s: %v %v", why, cols, got)
			}
		}
	}
}

// P11.3: parameters of types that are none, and two of one name, are ErrArg at 0, whatever the statement names.
func TestWrongParams(t *testing.T) {
	c := made(t, tables)
	many := make([]api.Col, 100000)
	for i := range many {
		many[i] = col(fmt.Sprint("p", i), api.Text)
	}
	for _, s := range []string{"SELECT a FROM t WHERE a = :p", "  DELETE FROM t", "  DELETE FROM z", "  INSERT INTO t (a, a) VALUES (1)", "  UPDATE t SET a = 1"} {
		x := stmt(t, s)
		for _, l := range [][]api.Col{
			{col("p", 0)}, {col("p", 5)}, {col("p", -1)}, {col("p", 1<<40)}, {col("x", api.Text), col("p", 0)}, {col("p", api.BigInt), col("", 0)},
			{col("p", api.BigInt), col("p", api.BigInt)}, {col("p", api.BigInt), col("q", api.BigInt), col("p", api.Text)}, {{Of: "x", Name: "p", Type: 1}, {Of: "y", Name: "p", Type: 1}},
			{col("", api.Text), col("", api.Bool)}, slices.Concat(many, many[77:78]),
		} {
			if at, why := c.Check(x, l); at != 0 || why != api.ErrArg {
				t.Errorf("%s with %s: %d %v", s, short(show(l)), at, why)
			}
			if cols, why := c.Answer(x, l); len(cols) != 0 || why != api.ErrArg {
				t.Errorf("%s with %s: %v %v", s, short(show(l)), cols, why)
			}
		}
	}
	ok := [][]api.Col{nil, {}, {col("", api.Text)}, {col("\xff", api.Bool), col("P", api.Text)}, many}
	for _, l := range ok {
		checks(t, c, "DELETE FROM t", api.OK, l...)
		checks(t, c, "DELETE FROM t WHERE a = ^:p", api.ErrParam, l...)
	}
	checks(t, c, "DELETE FROM t WHERE b = :p99999", api.OK, many...)
}
