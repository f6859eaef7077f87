package parse_test

import (
	"testing"

	"lockstep/api"
	"lockstep/parse"
)

// col is a column where it stands, val a value.
func col(at int, name string) api.Expr { return api.Expr{Op: "column", Name: name, At: at} }
func val(at int, v api.Value) api.Expr { return api.Expr{Op: "value", Value: v, At: at} }
func par(at int, name string) api.Expr { return api.Expr{Op: "param", Name: name, At: at} }
func of(at int, table, name string) api.Expr {
	return api.Expr{Op: "column", Of: table, Name: name, At: at}
}

func op(at int, op string, parts ...api.Expr) api.Expr {
	return api.Expr{Op: op, Parts: parts, At: at}
}

// one is a SELECT of a FROM t, with places.
func one(change func(x *api.Stmt)) api.Stmt {
	x := api.Stmt{Kind: api.Select, Items: []api.Item{{Expr: col(7, "a"), Name: "a", At: 7}}, From: []api.From{{Table: "t", As: "t", At: 14}}}
	change(&x)
	return x
}

// item is a SELECT of one item FROM t, which stands at from.
func item(from int, m api.Item) api.Stmt {
	m.At = 7
	return api.Stmt{Kind: api.Select, Items: []api.Item{m}, From: []api.From{{Table: "t", As: "t", At: from}}}
}

// P9.1: SELECTs, with all that may be left out, and where all stands.
func TestSelects(t *testing.T) {
	for s, x := range map[string]api.Stmt{
		"select a from t":                    one(func(x *api.Stmt) {}),
		"SELECT A FROM T":                    one(func(x *api.Stmt) {}),
		"select a from t where b":            one(func(x *api.Stmt) { x.Where = col(22, "b") }),
		"select a from t group by b, c + 1":  one(func(x *api.Stmt) { x.Group = []api.Expr{col(25, "b"), op(30, "+", col(28, "c"), val(32, num(1)))} }),
		"select a from t having b":           one(func(x *api.Stmt) { x.Having = col(23, "b") }),
		"select a from t order by b":         one(func(x *api.Stmt) { x.Order = []api.Order{{Name: "b", At: 25}} }),
		"select a from t order by b asc":     one(func(x *api.Stmt) { x.Order = []api.Order{{Name: "b", At: 25}} }),
		"select a from t order by b desc, c": one(func(x *api.Stmt) { x.Order = []api.Order{{Name: "b", Desc: true, At: 25}, {Name: "c", At: 33}} }),
		"select a from t limit 0":            one(func(x *api.Stmt) { x.Limit = val(22, num(0)) }),
		"select a from t limit 1":            one(func(x *api.Stmt) { x.Limit = val(22, num(1)) }),
		"select a from t limit 5000":         one(func(x *api.Stmt) { x.Limit = val(22, num(5000)) }),
		"select a from t limit :n":           one(func(x *api.Stmt) { x.Limit = par(22, "n") }),
		"select a from t as u":               one(func(x *api.Stmt) { x.From[0].As = "u" }),
		"select a from t join u on b":        one(func(x *api.Stmt) { x.From = append(x.From, api.From{Table: "u", As: "u", On: col(26, "b"), At: 21}) }),
		"select a from t as x join u as y on x.a = y.a join t on true": one(func(x *api.Stmt) {
			x.From[0].As = "x"
			x.From = append(x.From, api.From{Table: "u", As: "y", On: op(40, "=", of(36, "x", "a"), of(42, "y", "a")), At: 26}, api.From{Table: "t", As: "t", On: val(56, truth(1)), At: 51})
		}),
		"select distinct a from t":          {Kind: api.Select, Distinct: true, Items: []api.Item{{Expr: col(16, "a"), Name: "a", At: 16}}, From: []api.From{{Table: "t", As: "t", At: 23}}},
		"  select a, b as a, 1 from\n\"T\"": {Kind: api.Select, At: 2, Items: []api.Item{{Expr: col(9, "a"), Name: "a", At: 9}, {Expr: col(12, "b"), Name: "a", At: 12}, {Expr: val(20, num(1)), At: 20}}, From: []api.From{{Table: "T", As: "T", At: 27}}},
	} {
		reads(t, parse.Stmt, s, x, fault{})
	}
}

// P9.1: items: aggregates, and the names of all, with and without AS.
func TestItems(t *testing.T) {
	for s, x := range map[string]api.Stmt{
		"select a as b from t":            item(19, api.Item{Expr: col(7, "a"), Name: "b"}),
		"select u.a from t":               item(16, api.Item{Expr: of(7, "u", "a"), Name: "a"}),
		"select (a) from t":               item(16, api.Item{Expr: col(8, "a"), Name: "a"}),
		"select -a from t":                item(15, api.Item{Expr: op(7, "neg", col(8, "a"))}),
		"select a = b from t":             item(18, api.Item{Expr: op(9, "=", col(7, "a"), col(11, "b"))}),
		"select :a from t":                item(15, api.Item{Expr: par(7, "a")}),
		"select :a as a from t":           item(20, api.Item{Expr: par(7, "a"), Name: "a"}),
		"select 1 from t":                 item(14, api.Item{Expr: val(7, num(1))}),
		"select null as \"NULL\" from t":  item(27, api.Item{Expr: val(7, api.Value{}), Name: "NULL"}),
		"select count(*) from t":          item(21, api.Item{Agg: "count", Star: true, Name: "count"}),
		"select COUNT ( * ) AS n from t":  item(29, api.Item{Agg: "count", Star: true, Name: "n"}),
		"select count(a) from t":          item(21, api.Item{Agg: "count", Expr: col(13, "a"), Name: "count"}),
		"select count(distinct a) from t": item(30, api.Item{Agg: "count", Distinct: true, Expr: col(22, "a"), Name: "count"}),
		"select sum(a + b) from t":        item(23, api.Item{Agg: "sum", Expr: op(13, "+", col(11, "a"), col(15, "b")), Name: "sum"}),
		"select Min(a) from t":            item(19, api.Item{Agg: "min", Expr: col(11, "a"), Name: "min"}),
		"select max(distinct 1) from t":   item(28, api.Item{Agg: "max", Distinct: true, Expr: val(20, num(1)), Name: "max"}),
		"select avg(a) as \"avg\" from t": item(28, api.Item{Agg: "avg", Expr: col(11, "a"), Name: "avg"}),
		"select \"count\" from t":         item(20, api.Item{Expr: col(7, "count"), Name: "count"}),
	} {
		reads(t, parse.Stmt, s, x, fault{})
	}
}

// P9.1: the other statements.
func TestChanges(t *testing.T) {
	for s, x := range map[string]api.Stmt{
		"insert into t (a) values (1)":         {Kind: api.Insert, Table: "t", Cols: []string{"a"}, Values: []api.Expr{val(26, num(1))}},
		" INSERT INTO t(a,\"B\")VALUES(1,:p)":  {Kind: api.Insert, Table: "t", Cols: []string{"a", "B"}, Values: []api.Expr{val(28, num(1)), par(30, "p")}, At: 1},
		"insert into t (a) values (1, a or b)": {Kind: api.Insert, Table: "t", Cols: []string{"a"}, Values: []api.Expr{val(26, num(1)), op(31, "or", col(29, "a"), col(34, "b"))}},
		"update t set a = 1":                   {Kind: api.Update, Table: "t", Sets: []api.Set{{Name: "a", Expr: val(17, num(1)), At: 13}}},
		"update t set a = b = c, d = 2 where e": {Kind: api.Update, Table: "t", Where: col(36, "e"), Sets: []api.Set{
			{Name: "a", Expr: op(19, "=", col(17, "b"), col(21, "c")), At: 13}, {Name: "d", Expr: val(28, num(2)), At: 24}}},
		"\ndelete from t":          {Kind: api.Delete, Table: "t", At: 1},
		"delete from t where a":    {Kind: api.Delete, Table: "t", Where: col(20, "a")},
		"delete from \"a b\"--x":   {Kind: api.Delete, Table: "a b"},
		"delete/**/from/**/t /**/": {Kind: api.Delete, Table: "t"},
	} {
		reads(t, parse.Stmt, s, x, fault{})
	}
}

// P9.1: what can't be a statement, and where.
func TestNoStatements(t *testing.T) {
	for s, want := range map[string]fault{
		"": {0, api.ErrShort}, " -- x": {5, api.ErrShort}, "a": {0, api.ErrForm}, ";": {0, api.ErrForm}, "1": {0, api.ErrForm}, "\"select\" a from t": {0, api.ErrForm}, "create table t (a bigint)": {0, api.ErrForm}, "let a = select a from t": {0, api.ErrForm}, "abort 'x' if a": {0, api.ErrForm}, "select a from 'x": {14, api.ErrOpen},
		"SELECT a FROM": {13, api.ErrShort}, "SELECT FROM t": {7, api.ErrForm}, "select": {6, api.ErrShort}, "select *  from t": {7, api.ErrForm}, "select t.* from t": {9, api.ErrForm}, "select a": {8, api.ErrShort}, "select a b from t": {9, api.ErrForm}, "select a, from t": {10, api.ErrForm}, "select distinct": {15, api.ErrShort}, "select distinct distinct a from t": {16, api.ErrForm}, "select all a from t": {11, api.ErrForm}, "select a as from t": {12, api.ErrForm}, "select a as 'x' from t": {12, api.ErrForm}, "select a as t.x from t": {13, api.ErrForm}, "select a from t, u": {15, api.ErrMore}, "select a from t u": {16, api.ErrMore}, "select a from (t)": {14, api.ErrForm}, "select a from t.u": {15, api.ErrMore},
		"select count(*) + 1 from t": {16, api.ErrForm}, "select 1 + count(*) from t": {11, api.ErrForm}, "select count from t": {13, api.ErrForm}, "select count() from t": {13, api.ErrForm}, "select sum(*) from t": {11, api.ErrForm}, "select count(distinct *) from t": {22, api.ErrForm}, "select count(* ) as from t": {20, api.ErrForm}, "select count(a, b) from t": {14, api.ErrForm}, "select sum(sum(a)) from t": {11, api.ErrForm}, "select (count(*)) from t": {8, api.ErrForm}, "select count(a from t": {15, api.ErrForm}, "select length(distinct a) from t": {14, api.ErrForm},
		"select a from t join u": {22, api.ErrShort}, "select a from t join u where b": {23, api.ErrForm}, "select a from t join on b": {21, api.ErrForm}, "select a from t on b": {16, api.ErrMore}, "select a from t where": {21, api.ErrShort}, "select a from t where b where c": {24, api.ErrMore}, "select a from t where b join u on c": {24, api.ErrMore}, "select a from t group b": {22, api.ErrForm}, "select a from t group by": {24, api.ErrShort}, "select a from t group by a,": {27, api.ErrShort}, "select a from t group by a where b": {27, api.ErrMore}, "select a from t having b group by c": {25, api.ErrMore}, "select a from t order by a asc desc": {31, api.ErrMore}, "select a from t order by 1": {25, api.ErrForm}, "select a from t order by t.a": {26, api.ErrMore}, "select a from t order by (a)": {25, api.ErrForm}, "select a from t order by :p": {25, api.ErrForm}, "select a from t order a": {22, api.ErrForm},
		"select a from t limit": {21, api.ErrShort}, "select a from t limit -1": {22, api.ErrForm}, "select a from t limit 1.0": {22, api.ErrForm}, "select a from t limit '1'": {22, api.ErrForm}, "select a from t limit a": {22, api.ErrForm}, "select a from t limit null": {22, api.ErrForm}, "select a from t limit (1)": {22, api.ErrForm}, "select a from t limit 1 + 1": {24, api.ErrMore}, "select a from t limit :p + 1": {25, api.ErrMore}, "select a from t limit 1 order by a": {24, api.ErrMore}, "select a from t limit 9223372036854775808": {22, api.ErrOver}, "select a from t;": {15, api.ErrMore}, "select a from t select": {16, api.ErrMore},
		"insert t (a) values (1)": {7, api.ErrForm}, "insert into t values (1)": {14, api.ErrForm}, "insert into t () values (1)": {15, api.ErrForm}, "insert into t (a) values ()": {26, api.ErrForm}, "insert into t (a) select a from t": {18, api.ErrForm}, "insert into t (a) values (1), (2)": {28, api.ErrMore}, "insert into t (a, 1) values (1)": {18, api.ErrForm}, "insert into t (t.a) values (1)": {16, api.ErrForm}, "insert into t (a) values (1": {27, api.ErrShort}, "insert into t (a) values (1,": {28, api.ErrShort}, "insert into t (a) values (distinct 1)": {26, api.ErrForm},
		"update t": {8, api.ErrShort}, "update t a = 1": {9, api.ErrForm}, "update t set": {12, api.ErrShort}, "update t set a": {14, api.ErrShort}, "update t set a = ": {17, api.ErrShort}, "update t set a 1": {15, api.ErrForm}, "update t set t.a = 1": {14, api.ErrForm}, "update t set a = 1,": {19, api.ErrShort}, "update t set a = 1 b = 2": {19, api.ErrMore}, "update t set a <= 1": {15, api.ErrForm}, "update t as u set a = 1": {9, api.ErrForm}, "update t where a": {9, api.ErrForm},
		"delete t": {7, api.ErrForm}, "delete from": {11, api.ErrShort}, "delete from t as u": {14, api.ErrMore}, "delete from t where": {19, api.ErrShort}, "delete from t limit 1": {14, api.ErrMore}, "delete from t where a, b": {21, api.ErrMore}, "delete * from t": {7, api.ErrForm}, "delete from select": {12, api.ErrForm}, "delete from :t": {12, api.ErrForm}, "delete from 't'": {12, api.ErrForm},
	} {
		refuses(t, parse.Stmt, s, want.at, want.why)
	}
}
