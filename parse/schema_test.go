package parse_test

import (
	"testing"

	"lockstep/api"
	"lockstep/parse"
)

// plain is a table of one column, of the keys that follow it.
func plain(most int, part string) api.Decl {
	return api.Decl{
		Table: api.Table{Name: "t", Cols: []api.Column{{Name: "a", Type: api.BigInt}}, Keys: []api.Key{{}}, Most: most},
		Cols:  [][]string{nil}, Part: part,
	}
}

// P9.1: tables: columns of each type, keys wherever they stand, the primary one first.
func TestTables(t *testing.T) {
	for s, l := range map[string][]api.Decl{
		"": nil, " -- x": nil, "/**/\n": nil,
		"create table t (a bigint);":                            {plain(0, "")},
		"CREATE TABLE T (A BIGINT) LIMIT 1;":                    {plain(1, "")},
		"create table t (a bigint) limit 4096;":                 {plain(4096, "")},
		"create table t (a bigint) limit 007 ;":                 {plain(7, "")},
		"create table t (a bigint) partition by a;":             {plain(0, "a")},
		"create table t (a bigint) partition by \"B\" limit 9;": {plain(9, "B")},
		"create table t (a bigint, b decimal not null, c varchar(1), d varchar(4096) not null, e boolean);": {{
			Table: api.Table{Name: "t", Keys: []api.Key{{}}, Cols: []api.Column{
				{Name: "a", Type: api.BigInt}, {Name: "b", Type: api.Dec, NotNull: true}, {Name: "c", Type: api.Text, Most: 1}, {Name: "d", Type: api.Text, Most: 4096, NotNull: true}, {Name: "e", Type: api.Bool}}},
			Cols: [][]string{nil},
		}},
		" create table t (unique u (b, a), primary key (a), a bigint, index i (a, b, c, d), b boolean);": {{
			At:    1,
			Table: api.Table{Name: "t", Cols: []api.Column{{Name: "a", Type: api.BigInt}, {Name: "b", Type: api.Bool}}, Keys: []api.Key{{Name: "primary", Unique: true}, {Name: "u", Unique: true}, {Name: "i"}}},
			Cols:  [][]string{{"a"}, {"b", "a"}, {"a", "b", "c", "d"}},
		}},
		"create table t (a bigint, index \"primary\" (a));": {{
			Table: api.Table{Name: "t", Cols: []api.Column{{Name: "a", Type: api.BigInt}}, Keys: []api.Key{{}, {Name: "primary"}}},
			Cols:  [][]string{nil, {"a"}},
		}},
	} {
		reads(t, parse.Schema, s, l, fault{})
	}
}

// P9.1: procedures: parameters, steps of each kind, and where all stands.
func TestProcedures(t *testing.T) {
	gone := func(at int) api.Step {
		return api.Step{Kind: api.Run, At: at, Stmt: api.Stmt{Kind: api.Delete, Table: "t", At: at}}
	}
	for s, l := range map[string][]api.Decl{
		"create procedure f () as begin delete from t; end;":                       {{Proc: api.Proc{Name: "f", Steps: []api.Step{gone(31)}}}},
		"CREATE PROCEDURE F() AS BEGIN DELETE FROM T;DELETE FROM T;END;":           {{Proc: api.Proc{Name: "f", Steps: []api.Step{gone(30), gone(44)}}}},
		"create procedure f (p bigint) partition by p as begin delete from t;end;": {{Proc: api.Proc{Name: "f", Part: "p", Params: []api.Column{{Name: "p", Type: api.BigInt}}, Steps: []api.Step{gone(54)}}}},
		"\n create procedure f (p decimal, \"Q\" varchar(3), r boolean) as begin delete from t; end;": {{At: 2, Proc: api.Proc{
			Name: "f", At: 2, Params: []api.Column{{Name: "p", Type: api.Dec}, {Name: "Q", Type: api.Text, Most: 3}, {Name: "r", Type: api.Bool}}, Steps: []api.Step{gone(69)}}}},
		"create procedure f () as begin let n = select a from t; abort 'it''s' if :n > 1; abort '' if null; end;": {{Proc: api.Proc{Name: "f", Steps: []api.Step{
			{Kind: api.Let, Name: "n", At: 31, Stmt: api.Stmt{Kind: api.Select, At: 39, Items: []api.Item{{Expr: col(46, "a"), Name: "a", At: 46}}, From: []api.From{{Table: "t", As: "t", At: 53}}}},
			{Kind: api.Abort, Text: "it's", At: 56, Cond: op(76, ">", par(73, "n"), val(78, num(1)))},
			{Kind: api.Abort, At: 81, Cond: val(93, api.Value{})},
		}}}},
		"create table t (a bigint); create procedure t () as begin delete from t; end;create table t (a bigint);": {
			plain(0, ""),
			{At: 27, Proc: api.Proc{Name: "t", At: 27, Steps: []api.Step{gone(58)}}},
			func() api.Decl { d := plain(0, ""); d.At = 77; return d }(),
		},
	} {
		reads(t, parse.Schema, s, l, fault{})
	}
}

// P9.1: what can't be a declaration, and where.
func TestNoDeclarations(t *testing.T) {
	for s, want := range map[string]fault{
		"create": {6, api.ErrShort}, "create t": {7, api.ErrForm}, "create index i (a)": {7, api.ErrForm}, "table t (a bigint);": {0, api.ErrForm}, ";": {0, api.ErrForm}, "a": {0, api.ErrForm}, "select a from t;": {0, api.ErrForm}, "create table t (a bigint);;": {26, api.ErrForm}, "create table t (a bigint); x": {27, api.ErrForm}, "create table t (a bigint)": {25, api.ErrShort}, "create table t (a bigint) create": {26, api.ErrForm}, "create table t (a bigint); 'x": {27, api.ErrOpen}, "create table t (a bigint); create": {33, api.ErrShort},
		"create table t": {14, api.ErrShort}, "create table (a bigint);": {13, api.ErrForm}, "create table t a bigint;": {15, api.ErrForm}, "create table t ();": {16, api.ErrForm}, "create table t (": {16, api.ErrShort}, "create table t (a": {17, api.ErrShort}, "create table t (a)": {17, api.ErrForm}, "create table t (a int);": {18, api.ErrForm}, "create table t (a \"bigint\");": {18, api.ErrForm}, "create table t (a bigint,);": {25, api.ErrForm}, "create table t (a bigint b bigint);": {25, api.ErrForm}, "create table t (a bigint not);": {28, api.ErrForm}, "create table t (a bigint null);": {25, api.ErrForm}, "create table t (a bigint not null not null);": {34, api.ErrForm}, "create table t (1 bigint);": {16, api.ErrForm}, "create table t (:a bigint);": {16, api.ErrForm}, "create table t (a varchar);": {25, api.ErrForm}, "create table t (a bigint(3));": {24, api.ErrForm},
		"CREATE TABLE t (PRIMARY KEY (a));": {31, api.ErrForm}, "create table t (unique u (a));": {28, api.ErrForm}, "create table t (index i (a), primary key (a), unique u (a));": {58, api.ErrForm}, "create table t (primary key (a)": {31, api.ErrShort}, "create table t (primary key (a) x": {32, api.ErrForm}, "create table t (primary key (a),": {32, api.ErrShort},
		"create table t (a bigint, primary key (a), primary key (a));": {43, api.ErrForm}, "create table t (primary key (a), a bigint, PRIMARY": {43, api.ErrForm}, "create table t (a bigint, primary (a));": {34, api.ErrForm}, "create table t (a bigint, primary key a);": {38, api.ErrForm}, "create table t (a bigint, primary key p (a));": {38, api.ErrForm}, "create table t (a bigint, primary key ());": {39, api.ErrForm}, "create table t (a bigint, unique (a));": {33, api.ErrForm}, "create table t (a bigint, unique u a);": {35, api.ErrForm}, "create table t (a bigint, unique key u (a));": {33, api.ErrForm}, "create table t (a bigint, index i (a,));": {37, api.ErrForm}, "create table t (a bigint, index i (a desc));": {37, api.ErrForm}, "create table t (a bigint primary key);": {25, api.ErrForm}, "create table t (a bigint, key k (a));": {26, api.ErrForm},
		"create table t (a bigint) partition a;": {36, api.ErrForm}, "create table t (a bigint) partition by;": {38, api.ErrForm}, "create table t (a bigint) partition by a, b;": {40, api.ErrForm}, "create table t (a bigint) limit;": {31, api.ErrForm}, "create table t (a bigint) limit 1 partition by a;": {34, api.ErrForm}, "create table t (a bigint) limit 1 limit 1;": {34, api.ErrForm},
		"create table t (a bigint) limit 0;": {32, api.ErrForm}, "create table t (a bigint) limit 4097;": {32, api.ErrForm}, "create table t (a bigint) limit 9223372036854775807;": {32, api.ErrForm}, "create table t (a bigint) limit 1.0;": {32, api.ErrForm}, "create table t (a bigint) limit '1';": {32, api.ErrForm}, "create table t (a bigint) limit -1;": {32, api.ErrForm}, "create table t (a bigint) limit :n;": {32, api.ErrForm}, "create table t (a bigint) limit n;": {32, api.ErrForm}, "create table t (a bigint) limit ": {32, api.ErrShort},
		"create table t (a varchar(0));": {26, api.ErrForm}, "create table t (a varchar(4097));": {26, api.ErrForm}, "create table t (a varchar(4096.0));": {26, api.ErrForm}, "create table t (a varchar(:n));": {26, api.ErrForm}, "create table t (a varchar(3, 4));": {27, api.ErrForm}, "create procedure f (a varchar(0)) as": {30, api.ErrForm}, "create procedure f (a varchar(4097)) as": {30, api.ErrForm},
		"create procedure f": {18, api.ErrShort}, "create procedure f as begin": {19, api.ErrForm}, "create procedure f () begin": {22, api.ErrForm}, "create procedure f () as delete from t;": {25, api.ErrForm}, "create procedure f () as begin end;": {31, api.ErrForm}, "create procedure f () as begin ; end;": {31, api.ErrForm}, "create procedure f () as begin": {30, api.ErrShort}, "create procedure f () as begin delete from t": {44, api.ErrShort}, "create procedure f () as begin delete from t end;": {45, api.ErrForm}, "create procedure f () as begin delete from t;": {45, api.ErrShort}, "create procedure f () as begin delete from t; end": {49, api.ErrShort}, "create procedure f () as begin delete from t; end end": {50, api.ErrForm}, "create procedure f () as begin delete from t;; end;": {45, api.ErrForm}, "create procedure f () as begin delete from t where a limit; end;": {53, api.ErrForm}, "create procedure f () as begin a; end;": {31, api.ErrForm},
		"create procedure f (,) as": {20, api.ErrForm}, "create procedure f (p) as": {21, api.ErrForm}, "create procedure f (p bigint,) as": {29, api.ErrForm}, "create procedure f (:p bigint) as": {20, api.ErrForm}, "create procedure f (p bigint not null) as": {29, api.ErrForm}, "create procedure f (p bigint q bigint) as": {29, api.ErrForm}, "create procedure f () partition by :p as": {35, api.ErrForm}, "create procedure f () limit 1 as": {22, api.ErrForm}, "create procedure f (primary key (a)) as": {20, api.ErrForm},
		"create procedure f () as begin let n select a from t; end;": {37, api.ErrForm}, "create procedure f () as begin let n = delete from t; end;": {39, api.ErrForm}, "create procedure f () as begin let n = 1; end;": {39, api.ErrForm}, "create procedure f () as begin let n = (select a from t); end;": {39, api.ErrForm}, "create procedure f () as begin let :n = select a from t; end;": {35, api.ErrForm}, "create procedure f () as begin let n = ": {39, api.ErrShort}, "create procedure f () as begin abort if a; end;": {37, api.ErrForm}, "create procedure f () as begin abort 1 if a; end;": {37, api.ErrForm}, "create procedure f () as begin abort 1.5 if a; end;": {37, api.ErrForm}, "create procedure f () as begin abort x if a; end;": {37, api.ErrForm}, "create procedure f () as begin abort :x if a; end;": {37, api.ErrForm}, "create procedure f () as begin abort 'x'; end;": {40, api.ErrForm}, "create procedure f () as begin abort 'x' if; end;": {43, api.ErrForm}, "create procedure f () as begin abort 'x' if a b; end;": {46, api.ErrForm}, "create procedure f () as begin abort 'x' when a; end;": {41, api.ErrForm}, "create procedure f () as begin abort null if a; end;": {37, api.ErrForm},
	} {
		refuses(t, parse.Schema, s, want.at, want.why)
	}
}
