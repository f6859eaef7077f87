package parse_test

import (
	"fmt"
	"strings"
	"testing"

	"lockstep/api"
	"lockstep/parse"
	"lockstep/value"
)

// brief tells an expression in one line: what is done, @ where, and the Parts in brackets.
func brief(e api.Expr) string {
	s := e.Op
	switch e.Op {
	case "value":
		s, _ = value.Print(e.Value)
	case "column":
		s = e.Name
		if e.Of != "" {
			s = e.Of + "." + e.Name
		}
	case "param":
		s = ":" + e.Name
	case "cast":
		s = fmt.Sprint("cast", e.Type)
	}
	s += fmt.Sprint("@", e.At)
	if len(e.Parts) == 0 {
		return s
	}
	var parts []string
	for _, p := range e.Parts {
		parts = append(parts, brief(p))
	}
	return s + "(" + strings.Join(parts, " ") + ")"
}

// P9.1: each kind of expression, what it is of, and where it stands.
func TestExpressions(t *testing.T) {
	for s, want := range map[string]string{
		"a - b - c * 2 = 0 and not x is null": "and@18(=@14(-@6(-@2(a@0 b@4) *@10(c@8 2@12)) 0@16) not@22(is null@28(x@26)))",

		"a": "a@0", " A ": "a@1", `"A"`: "A@0", `"select"`: "select@0", `"a""b"`: `a"b@0`, "t.a": "t.a@0", "T . A": "t.a@0", `"T"."A"`: "T.A@0", " /* x */t/**/./**/a": "t.a@8", "/* é */a": "a@8",
		"1": "1@0", "007": "7@0", "1.50": "1.5@0", "'it''s'": "'it''s'@0", "''": "''@0", "null": "NULL@0", "NULL": "NULL@0", "true": "TRUE@0", "False": "FALSE@0", ":p": ":p@0", ":P1": ":p1@0", ":select": ":select@0",

		"-1": "neg@0(1@1)", "- 1.5": "neg@0(1.5@2)", "- -1": "neg@0(neg@2(1@3))", "-(1)": "neg@0(1@2)", "-9223372036854775807": "neg@0(9223372036854775807@1)", "-a.b": "neg@0(a.b@1)", "-a*b": "*@2(neg@0(a@1) b@3)", "a*-b": "*@1(a@0 neg@2(b@3))", "a - -b": "-@2(a@0 neg@4(b@5))",
		"a*b": "*@1(a@0 b@2)", "a/b": "/@1(a@0 b@2)", "a*b/c*d": "*@5(/@3(*@1(a@0 b@2) c@4) d@6)", "a*(b/c)": "*@1(a@0 /@4(b@3 c@5))",
		"a+b": "+@1(a@0 b@2)", "a-b": "-@1(a@0 b@2)", "a||b": "||@1(a@0 b@3)", "a+b-c||d": "||@5(-@3(+@1(a@0 b@2) c@4) d@7)", "a+b*c": "+@1(a@0 *@3(b@2 c@4))", "(a+b)*c": "*@5(+@2(a@1 b@3) c@6)", "a-(b-c)": "-@1(a@0 -@4(b@3 c@5))",
		"a=b": "=@1(a@0 b@2)", "a<>b": "<>@1(a@0 b@3)", "a<b": "<@1(a@0 b@2)", "a<=b": "<=@1(a@0 b@3)", "a>b": ">@1(a@0 b@2)", "a>=b": ">=@1(a@0 b@3)", "a+1=b*2": "=@3(+@1(a@0 1@2) *@5(b@4 2@6))", "(a=b)=c": "=@5(=@2(a@1 b@3) c@6)", "a=(b=c)": "=@1(a@0 =@4(b@3 c@5))",

		"a is null": "is null@2(a@0)", "a is not null": "not@5(is null@5(a@0))", "a IS/**/NOT NULL": "not@8(is null@8(a@0))", "not a is null": "not@0(is null@6(a@4))", "not a is not null": "not@0(not@9(is null@9(a@4)))", "(a is null) is null": "is null@12(is null@3(a@1))", "a + b is null": "is null@6(+@2(a@0 b@4))",
		"a like b": "like@2(a@0 b@7)", "a not like b": "not@2(like@2(a@0 b@11))", "a not /* */ like b || c": "not@2(like@2(a@0 ||@19(b@17 c@22)))", "not a like b": "not@0(like@6(a@4 b@11))", "(not a) like b": "like@8(not@1(a@5) b@13)",
		"a in (b)": "in@2(a@0 b@6)", "a in (b, c, d)": "in@2(a@0 b@6 c@9 d@12)", "a not in (b, c)": "not@2(in@2(a@0 b@10 c@13))", "a in (b or c, not d)": "in@2(a@0 or@8(b@6 c@11) not@14(d@18))", "a in ((b))": "in@2(a@0 b@7)", "a in (b in (c))": "in@2(a@0 in@8(b@6 c@12))",

		"not a": "not@0(a@4)", "not not a": "not@0(not@4(a@8))", "not a = b": "not@0(=@6(a@4 b@8))", "not (a or b) and c": "and@13(not@0(or@7(a@5 b@10)) c@17)", "NOT(a)": "not@0(a@4)",
		"a and b": "and@2(a@0 b@6)", "a and b and c": "and@8(and@2(a@0 b@6) c@12)", "a and (b and c)": "and@2(a@0 and@9(b@7 c@13))", "a or b": "or@2(a@0 b@5)", "a or b or c": "or@7(or@2(a@0 b@5) c@10)", "a or (b or c)": "or@2(a@0 or@8(b@6 c@11))", "a or b and c": "or@2(a@0 and@7(b@5 c@11))", "a and b or c": "or@8(and@2(a@0 b@6) c@11)", "(a or b) and c": "and@9(or@3(a@1 b@6) c@13)", "((a)) and ((b))": "and@6(a@2 b@12)",

		"cast(a as bigint)": "cast1@0(a@5)", "CAST ( a AS DECIMAL )": "cast2@0(a@7)", "cast(a as varchar(3))": "cast3@0(a@5)", "cast(a as varchar(4096))": "cast3@0(a@5)", "cast(a as boolean)": "cast4@0(a@5)", "cast(a or b as bigint)": "cast1@0(or@7(a@5 b@10))",
		"length(a)": "length@0(a@7)", "substr(a, 1, 2)": "substr@0(a@7 1@10 2@13)", "coalesce(a, null)": "coalesce@0(a@9 NULL@12)", "case when a then b else c end": "case@0(a@10 b@17 c@24)", "case when a = 1 then - 1 else (2) end": "case@0(=@12(a@10 1@14) neg@21(1@23) 2@31)", "case when case when a then b else c end then d else e end": "case@0(case@10(a@20 b@27 c@34) d@45 e@52)",
	} {
		e, at, why := parse.Expr(s)
		if got := brief(e); got != want || at != 0 || why != api.OK {
			t.Errorf("%s: %s %d %v, not %s", s, got, at, why, want)
		}
	}
}

// An expression that is read has nothing but what its Op names.
func TestNothingElse(t *testing.T) {
	for s, want := range map[string]api.Expr{
		"t.a":                     {Op: "column", Of: "t", Name: "a"},
		"a":                       {Op: "column", Name: "a"},
		":p":                      {Op: "param", Name: "p"},
		"null":                    {Op: "value"},
		"true":                    {Op: "value", Value: truth(1)},
		"false":                   {Op: "value", Value: truth(0)},
		"'a'":                     {Op: "value", Value: text("a")},
		"1.0":                     {Op: "value", Value: dec(10000)},
		"cast(a as varchar(7))":   {Op: "cast", Type: api.Text, Parts: []api.Expr{{Op: "column", Name: "a", At: 5}}},
		"a not in (1)":            {Op: "not", At: 2, Parts: []api.Expr{{Op: "in", At: 2, Parts: []api.Expr{{Op: "column", Name: "a"}, {Op: "value", Value: num(1), At: 10}}}}},
		"length(coalesce(:a,:b))": {Op: "length", Parts: []api.Expr{{Op: "coalesce", At: 7, Parts: []api.Expr{{Op: "param", Name: "a", At: 16}, {Op: "param", Name: "b", At: 19}}}}},
	} {
		reads(t, parse.Expr, s, want, fault{})
	}
}

// P9.1: what can't be an expression, and where.
func TestNoExpressions(t *testing.T) {
	for s, want := range map[string]fault{
		"": {0, api.ErrShort}, "   ": {3, api.ErrShort}, "-- a": {4, api.ErrShort}, "/* a */\n": {8, api.ErrShort}, "-- é\n": {6, api.ErrShort},
		"'x": {0, api.ErrOpen}, "a 'x": {2, api.ErrOpen}, "select 'x": {7, api.ErrOpen}, "a b 1.23456": {4, api.ErrForm}, ") /*": {2, api.ErrOpen}, "a b \x00": {4, api.ErrRune}, "a !": {2, api.ErrRune}, ":": {0, api.ErrName}, "a b 99999999999999999999": {4, api.ErrOver}, ") '" + strings.Repeat("x", 4097) + "'": {2, api.ErrLong}, strings.Repeat(")", 65537): {0, api.ErrLong}, strings.Repeat(" ", 65536): {65536, api.ErrShort}, strings.Repeat(" ", 65535) + "(": {65536, api.ErrShort}, strings.Repeat(" ", 65535) + ")": {65535, api.ErrForm},
		"a b": {2, api.ErrMore}, "a 1": {2, api.ErrMore}, "a )": {2, api.ErrMore}, "a ;": {2, api.ErrMore}, "1 2": {2, api.ErrMore}, "a = b = c": {6, api.ErrMore}, "a is null is null": {10, api.ErrMore}, "a like b like c": {9, api.ErrMore}, "a in (b) in (c)": {9, api.ErrMore}, "a = b is null": {6, api.ErrMore}, "a = b not in (c)": {6, api.ErrMore}, "a null": {2, api.ErrMore}, "a.b.c": {3, api.ErrMore}, "1.a": {1, api.ErrMore}, ":p.a": {2, api.ErrMore}, "a (b)": {2, api.ErrMore}, "(a).b": {3, api.ErrMore}, "a as b": {2, api.ErrMore}, "a, b": {1, api.ErrMore}, "null null": {5, api.ErrMore}, "a case": {2, api.ErrMore}, "a !=": {2, api.ErrRune},
		"a +": {3, api.ErrShort}, "a + ": {4, api.ErrShort}, "a = ": {4, api.ErrShort}, "not": {3, api.ErrShort}, "-": {1, api.ErrShort}, "(": {1, api.ErrShort}, "(a": {2, api.ErrShort}, "a.": {2, api.ErrShort}, "a is": {4, api.ErrShort}, "a is not": {8, api.ErrShort}, "a not": {5, api.ErrShort}, "a not like": {10, api.ErrShort}, "a in": {4, api.ErrShort}, "a in (": {6, api.ErrShort}, "a in (b": {7, api.ErrShort}, "a in (b,": {8, api.ErrShort}, "cast": {4, api.ErrShort}, "cast(a as varchar": {17, api.ErrShort}, "cast(a as varchar(": {18, api.ErrShort}, "case when a then b else c": {25, api.ErrShort},
		")": {0, api.ErrForm}, "select": {0, api.ErrForm}, "* a": {0, api.ErrForm}, "+ a": {0, api.ErrForm}, "= a": {0, api.ErrForm}, "and": {0, api.ErrForm}, "is null": {0, api.ErrForm}, "count(*)": {0, api.ErrForm}, "sum(a)": {0, api.ErrForm}, "()": {1, api.ErrForm}, "(a b)": {3, api.ErrForm}, "(a, b)": {2, api.ErrForm}, "a in ()": {6, api.ErrForm}, "a in b": {5, api.ErrForm}, "a in (b,)": {8, api.ErrForm}, "a not b": {6, api.ErrForm}, "a not null": {6, api.ErrForm}, "a not is null": {6, api.ErrForm}, "a not = b": {6, api.ErrForm}, "a is 1": {5, api.ErrForm}, "a is true": {5, api.ErrForm}, "a is not 1": {9, api.ErrForm}, "a is not not null": {9, api.ErrForm}, "a + not b": {4, api.ErrForm}, "a = not b": {4, api.ErrForm}, "- not a": {2, api.ErrForm}, "a like not b": {7, api.ErrForm}, "a.1": {2, api.ErrForm}, "a . 1": {4, api.ErrForm}, "a.select": {2, api.ErrForm}, "a.:p": {2, api.ErrForm}, "a.*": {2, api.ErrForm}, "+1": {0, api.ErrForm}, "a ++ b": {3, api.ErrForm},
		"cast a": {5, api.ErrForm}, "cast(a)": {6, api.ErrForm}, "cast(a as)": {9, api.ErrForm}, "cast(a as b)": {10, api.ErrForm}, `cast(a as "bigint")`: {10, api.ErrForm}, "cast(a as varchar)": {17, api.ErrForm}, "cast(a as bigint(3))": {16, api.ErrForm}, "cast(a as bigint, b)": {16, api.ErrForm}, "length()": {7, api.ErrForm}, "length(a, b)": {8, api.ErrForm}, "substr(a, b)": {11, api.ErrForm}, "substr(a, b, c, d)": {14, api.ErrForm}, "coalesce(a)": {10, api.ErrForm}, "coalesce(a, b, c)": {13, api.ErrForm}, "case a when b then c else d end": {5, api.ErrForm}, "case when a then b end": {19, api.ErrForm}, "case when a then b when c then d else e end": {19, api.ErrForm}, "case when a else b end": {12, api.ErrForm}, `"case" when`: {7, api.ErrMore}, "foo(a)": {3, api.ErrMore},
		"cast(a as varchar(0))": {18, api.ErrForm}, "cast(a as varchar(4097))": {18, api.ErrForm}, "cast(a as varchar(9223372036854775807))": {18, api.ErrForm}, "cast(a as varchar(1.0))": {18, api.ErrForm}, "cast(a as varchar('1'))": {18, api.ErrForm}, "cast(a as varchar(-1))": {18, api.ErrForm}, "cast(a as varchar(:p))": {18, api.ErrForm}, "cast(a as varchar(n))": {18, api.ErrForm}, "cast(a as varchar())": {18, api.ErrForm},
	} {
		refuses(t, parse.Expr, s, want.at, want.why)
	}
}

// P9.1: each word of SQL's own is no name bare, in whatever letters, but one in quotes; all other words are.
func TestNames(t *testing.T) {
	reads := func(s, name string) {
		t.Helper()
		for _, x := range []struct{ text, want string }{{s, name + "@0"}, {"x." + s, "x." + name + "@0"}, {s + ".x", name + ".x@0"}} {
			if e, at, why := parse.Expr(x.text); brief(e) != x.want || at != 0 || why != api.OK {
				t.Errorf("%s: %s %d %v", x.text, brief(e), at, why)
			}
		}
		y, at, why := parse.Stmt("select a as " + s + " from " + s + " order by " + s)
		if why != api.OK || y.Items[0].Name != name || y.From[0].Table != name || y.Order[0].Name != name {
			t.Errorf("%s: %+v %d %v", s, y, at, why)
		}
	}
	for _, word := range strings.Fields(sqlWords) {
		great, first := strings.ToUpper(word), strings.ToUpper(word[:1])+word[1:]
		for _, s := range []string{word, great, first} {
			for prefix, suffix := range map[string]string{"delete from ": "", "update ": " set a = 1", "update t set ": " = 1", "insert into ": " (a) values (1)", "insert into t (": ") values (1)", "select a as ": " from t", "select a from ": "", "select a from t as ": "", "select a from t order by ": "", "select x.": " from t", "select a from t join ": " on a"} {
				refuses(t, parse.Stmt, prefix+s+suffix, len(prefix), api.ErrForm)
			}
			for prefix, suffix := range map[string]string{"create table ": " (a bigint);", "create table t (a bigint, unique ": " (a));", "create table t (a bigint, index ": " (a));", "create table t (a bigint, primary key (": "));", "create table t (a bigint, index i (a, ": "));", "create table t (a bigint) partition by ": ";", "create procedure ": " () as begin delete from t; end;", "create procedure f (": " bigint) as begin delete from t; end;", "create procedure f () partition by ": " as begin delete from t; end;", "create procedure f () as begin let ": " = select a from t; end;"} {
				refuses(t, parse.Schema, prefix+s+suffix, len(prefix), api.ErrForm)
			}
		}
		reads(`"`+word+`"`, word)
		reads(`"`+great+`"`, great)
		reads(`"`+first+`"`, first)
		reads(word+"_", word+"_")
		reads(great+"1", word+"1")
	}
	for _, s := range []string{"a", "_", "x1", "primary_key", "int", "union"} {
		reads(s, s)
		reads(strings.ToUpper(s), s)
		reads(`"`+s+`"`, s)
	}
	reads(`" "`, " ")
	reads(`"a""b"`, `a"b`)
	reads(`"`+strings.Repeat("é", 16)+`"`, strings.Repeat("é", 16))
}
