package parse_test

import (
	"math/rand"
	"slices"
	"strings"
	"testing"

	"lockstep/api"
	"lockstep/lex"
	"lockstep/parse"
)

// prints checks how a text is written that was read.
func prints[T any](t *testing.T, read func(string) (T, int, api.Errno), print func(T) (string, api.Errno), s, want string) {
	t.Helper()
	x, at, why := read(s)
	got, not := print(x)
	if at != 0 || why != api.OK || got != want || not != api.OK {
		t.Errorf("%s: %s %d %v %v, not %s", s, got, at, why, not, want)
	}
}

// P9.2: expressions, as they are read and written.
func TestPrintedExpressions(t *testing.T) {
	for s, want := range map[string]string{
		"a - b - c * 2 = 0 and not x is null": "a - b - c * 2 = 0 AND x IS NOT NULL",

		"a": "a", "A": "a", `"a"`: "a", `"A"`: `"A"`, `"select"`: `"select"`, `"Select"`: `"Select"`, `"a""b"`: `"a""b"`, `"1"`: `"1"`, "T . A": "t.a", `"T" . "null"`: `"T"."null"`, "1": "1", "007": "7", "1.50": "1.5", "2.0": "2.0", "0.0001": "0.0001", "'it''s'": "'it''s'", "''": "''", "'('": "'('", "null": "NULL", "true": "TRUE", "false": "FALSE", ":P": ":p", ":select": ":select",
		"-1": "- 1", "- -1": "- - 1", "-(-(1))": "- - 1", "-(a*b)": "- (a * b)", "-a*b": "- a * b", "a*-b": "a * - b", "-(a+b)": "- (a + b)", "-length(a)": "- LENGTH(a)", "-(a is null)": "- (a IS NULL)", "-(not a)": "- (NOT a)",
		"a*b*c": "a * b * c", "a*(b*c)": "a * (b * c)", "a/b*c": "a / b * c", "a/(b*c)": "a / (b * c)", "(a*b)/c": "a * b / c", "a*(b+c)": "a * (b + c)", "(a+b)*c": "(a + b) * c", "a+b*c": "a + b * c", "a+(b*c)": "a + b * c", "a-(b-c)": "a - (b - c)", "(a-b)-c": "a - b - c", "a||(b+c)": "a || (b + c)", "a||b": "a || b",
		"a=b": "a = b", "a<>b": "a <> b", "a<b": "a < b", "a<=b": "a <= b", "a>b": "a > b", "a>=b": "a >= b", "(a=b)=c": "(a = b) = c", "a=(b=c)": "a = (b = c)", "a+b=c*d": "a + b = c * d", "(a and b)=c": "(a AND b) = c", "(not a)=b": "(NOT a) = b", "a = (b is null)": "a = (b IS NULL)", "a=-b": "a = - b",
		"a is null": "a IS NULL", "a is not null": "a IS NOT NULL", "not a is null": "a IS NOT NULL", "not (a is null)": "a IS NOT NULL", "not a is not null": "NOT a IS NOT NULL", "not (not a is null)": "NOT a IS NOT NULL", "(a is null) is null": "(a IS NULL) IS NULL", "(a is not null) is null": "(a IS NOT NULL) IS NULL", "(not a) is null": "(NOT a) IS NULL", "a+b is null": "a + b IS NULL", "(a or b) is not null": "(a OR b) IS NOT NULL",
		"a like b": "a LIKE b", "not a like b": "a NOT LIKE b", "a not like b||c": "a NOT LIKE b || c", "(a like b) like c": "(a LIKE b) LIKE c", "a like (b like c)": "a LIKE (b LIKE c)", "a like (b = c)": "a LIKE (b = c)",
		"a in (1)": "a IN (1)", "a in(1,2,3)": "a IN (1, 2, 3)", "not a in (1)": "a NOT IN (1)", "t.a not in (1,2)": "t.a NOT IN (1, 2)", "a in (b or c, (d = e), not f)": "a IN (b OR c, d = e, NOT f)", "(a in (b)) in (c)": "(a IN (b)) IN (c)", "a in ((b in (c)))": "a IN (b IN (c))",
		"not a": "NOT a", "not not a": "NOT NOT a", "not (a or b)": "NOT (a OR b)", "not (a and b)": "NOT (a AND b)", "not a = b": "NOT a = b", "not (a = b)": "NOT a = b", "not a + b": "NOT a + b", "(not a) and b": "NOT a AND b", "not (not a and b)": "NOT (NOT a AND b)",
		"a and b and c": "a AND b AND c", "a and (b and c)": "a AND (b AND c)", "a or b or c": "a OR b OR c", "a or (b or c)": "a OR (b OR c)", "(a or b) and c": "(a OR b) AND c", "a and (b or c)": "a AND (b OR c)", "a or b and c": "a OR b AND c", "a or (b and c)": "a OR b AND c", "(a and b) or c": "a AND b OR c",
		"cast(a as bigint)": "CAST(a AS BIGINT)", "cast((a) as decimal)": "CAST(a AS DECIMAL)", "cast(a as varchar(3))||'x'": "CAST(a AS VARCHAR(4096)) || 'x'", "cast(a or b as boolean)": "CAST(a OR b AS BOOLEAN)", "length(a)": "LENGTH(a)", "substr(a,1,(2))": "SUBSTR(a, 1, 2)", "coalesce(a,null)": "COALESCE(a, NULL)", "coalesce(a or b, not c)": "COALESCE(a OR b, NOT c)",
		"case when a then 1 else :p end": "CASE WHEN a THEN 1 ELSE :p END", "case when (a or b) then (c) else (not d) end": "CASE WHEN a OR b THEN c ELSE NOT d END", "case when a then b else c end + 1": "CASE WHEN a THEN b ELSE c END + 1", "- case when a then b else c end": "- CASE WHEN a THEN b ELSE c END", "(case when a then b else c end) is null": "CASE WHEN a THEN b ELSE c END IS NULL",
	} {
		prints(t, parse.Expr, parse.PrintExpr, s, want)
	}
}

// P9.2: statements, as they are read and written.
func TestPrintedStatements(t *testing.T) {
	for s, want := range map[string]string{
		"select a, count(*) from t group by a order by a limit :n":              "SELECT a, COUNT(*) FROM t GROUP BY a ORDER BY a LIMIT :n",
		"select distinct a,t.b,1 from t":                                        "SELECT DISTINCT a, t.b, 1 FROM t",
		"select a as a, t.b as b, a as c, 1 as d, -a as a from t":               "SELECT a, t.b, a AS c, 1 AS d, - a AS a FROM t",
		"select (a) as a, (a) as \"A\", \"A\", :a as a from \"T\"":              "SELECT a, a AS \"A\", \"A\", :a AS a FROM \"T\"",
		"select count(*) as \"count\", count(*) as n, count(a) from t":          "SELECT COUNT(*), COUNT(*) AS n, COUNT(a) FROM t",
		"select count(distinct a), sum(a+b), sum(distinct a) as s from t":       "SELECT COUNT(DISTINCT a), SUM(a + b), SUM(DISTINCT a) AS s FROM t",
		"select min(a), max(a or b) as \"min\", avg((a)) as \"avg\" from t":     "SELECT MIN(a), MAX(a OR b) AS \"min\", AVG(a) FROM t",
		"select a from t as t join u as v on t.a=v.a join \"U\" as u on (true)": "SELECT a FROM t JOIN u AS v ON t.a = v.a JOIN \"U\" AS u ON TRUE",
		"select a from t where (a or b)":                                        "SELECT a FROM t WHERE a OR b",
		"select a from t group by (a),b+1 having (a)":                           "SELECT a FROM t GROUP BY a, b + 1 HAVING a",
		"select a from t order by a asc, b desc,\"order\"":                      "SELECT a FROM t ORDER BY a, b DESC, \"order\"",
		"select a from t limit 0":                                               "SELECT a FROM t LIMIT 0",
		"select a from t limit 010":                                             "SELECT a FROM t LIMIT 10",
		"insert into t(a)values(1)":                                             "INSERT INTO t (a) VALUES (1)",
		"insert into \"into\"(a,\"B\",c)values((1),:p,-a)":                      "INSERT INTO \"into\" (a, \"B\", c) VALUES (1, :p, - a)",
		"update t set a=1": "UPDATE t SET a = 1",
		"update t set a=(b=c),\"set\"=null where (a)": "UPDATE t SET a = b = c, \"set\" = NULL WHERE a",
		"delete from t":                   "DELETE FROM t",
		"delete from t where a not in(1)": "DELETE FROM t WHERE a NOT IN (1)",
	} {
		prints(t, parse.Stmt, parse.PrintStmt, s, want)
	}
}

// P9.2: declarations, as they are read and written.
func TestPrintedSchemas(t *testing.T) {
	for s, want := range map[string]string{
		"": "", "-- nothing": "",
		"create table t(a bigint);":                      "CREATE TABLE t (a BIGINT);\n",
		"create table \"T\"(\"A\" decimal not null);":    "CREATE TABLE \"T\" (\"A\" DECIMAL NOT NULL);\n",
		"create table t(a varchar(3),b boolean)limit 9;": "CREATE TABLE t (a VARCHAR(3), b BOOLEAN) LIMIT 9;\n",
		"create table t(unique u(a,b),primary key(a),a bigint,index \"primary\"(b),b varchar(4096) not null)partition by a limit 4096;": "CREATE TABLE t (a BIGINT, b VARCHAR(4096) NOT NULL, PRIMARY KEY (a), UNIQUE u (a, b), INDEX \"primary\" (b)) PARTITION BY a LIMIT 4096;\n",
		"create table t(a bigint,index i(a))partition by \"by\";create table u(a bigint);":                                              "CREATE TABLE t (a BIGINT, INDEX i (a)) PARTITION BY \"by\";\nCREATE TABLE u (a BIGINT);\n",
		"create procedure f()as begin delete from t;end;":                                                                               "CREATE PROCEDURE f () AS BEGIN DELETE FROM t; END;\n",
		"create procedure f(p bigint,q varchar(1))partition by p as begin let n=select a from t;abort 'it''s' if(:n>1);abort '' if null;insert into t(a)values(1);update t set a=1;select a from t;end;create table t(a bigint);": "CREATE PROCEDURE f (p BIGINT, q VARCHAR(1)) PARTITION BY p AS BEGIN LET n = SELECT a FROM t; ABORT 'it''s' IF :n > 1; ABORT '' IF NULL; INSERT INTO t (a) VALUES (1); UPDATE t SET a = 1; SELECT a FROM t; END;\nCREATE TABLE t (a BIGINT);\n",
	} {
		prints(t, parse.Schema, parse.PrintSchema, s, want)
	}
}

// tokens are those of a text, without the End.
func tokens(s string) []api.Token {
	l, _, _ := lex.Tokens(s)
	return l[:len(l)-1]
}

// spaced is tokens as P9.2 has them: great words, names in quotes if need be, blanks.
func spaced(l []api.Token) string {
	functions := strings.Fields("cast length substr coalesce count sum min max avg varchar")
	s := ""
	for i, x := range l {
		tight := i == 0 || strings.HasSuffix(s, "\n")
		if i > 0 && x.Kind == api.Sign {
			tight = tight || strings.Contains(",;).", x.Text) || x.Text == "(" && l[i-1].Kind == api.Word && slices.Contains(functions, l[i-1].Text)
		}
		if i > 0 && l[i-1].Kind == api.Sign {
			tight = tight || l[i-1].Text == "(" || l[i-1].Text == "."
		}
		if !tight {
			s += " "
		}
		switch x.Kind {
		case api.Word:
			if strings.Contains(sqlWords, " "+x.Text+" ") {
				x.Text = strings.ToUpper(x.Text)
			}
			s += x.Text
		case api.Quoted:
			written, _ := lex.Quote(x.Text)
			s += written
		default:
			written, _ := lex.Print([]api.Token{x})
			s += written
		}
		// The ; of a decl stands where the next one begins, or the whole ends.
		if x.Text == ";" && (i+1 == len(l) || l[i+1].Text == "create") {
			s += "\n"
		}
	}
	return s
}

// P9.2: what is written is in one form: its tokens' words, names and blanks are as said.
func TestForm(t *testing.T) {
	check := func(got string, why api.Errno) {
		t.Helper()
		if why != api.OK {
			t.Error(why)
		}
		if len(got) <= api.MaxSource && got != spaced(tokens(got)) {
			t.Errorf("%s, not\n%s", short(got), short(spaced(tokens(got))))
		}
	}
	expressions(800, func(s string, e api.Expr, wrong fault) {
		if wrong.why == api.OK {
			check(parse.PrintExpr(e))
		}
	})
	statements(1000, func(s string, x api.Stmt, wrong fault) {
		if wrong.why == api.OK {
			check(parse.PrintStmt(x))
		}
	})
	schemas(400, func(s string, l []api.Decl, wrong fault) {
		if wrong.why == api.OK {
			check(parse.PrintSchema(l))
		}
	})
}

// ops are all that can be done, and with how many Parts.
func ops() map[string]int {
	return map[string]int{
		"or": 2, "and": 2, "not": 1, "=": 2, "<>": 2, "<": 2, "<=": 2, ">": 2, ">=": 2, "is null": 1, "like": 2, "in": 3, "+": 2, "-": 2, "||": 2, "*": 2, "/": 2, "neg": 1, "cast": 1, "length": 1, "substr": 3, "coalesce": 2, "case": 3, "value": 0, "column": 0, "param": 0,
	}
}

func opNames() []string {
	var l []string
	for op := range ops() {
		l = append(l, op)
	}
	slices.Sort(l)
	return l
}

// made is an expression of an Op, of Parts that are columns but for the one at place.
func made(op string, place int, part api.Expr) api.Expr {
	e := api.Expr{Op: op}
	for i := range ops()[op] {
		e.Parts = append(e.Parts, api.Expr{Op: "column", Name: string(rune('a' + i))})
		if i == place {
			e.Parts[i] = part
		}
	}
	switch op {
	case "value":
		e.Value = num(1)
	case "column", "param":
		e.Name = "x"
	case "cast":
		e.Type = api.Dec
	}
	return e
}

// bracketed checks that an expression is written so that it is read again, and with no bracket that could be left out. It tells how many there are.
func bracketed(t *testing.T, e api.Expr) int {
	t.Helper()
	s, why := parse.PrintExpr(e)
	if why != api.OK {
		t.Errorf("%s: %v", brief(e), why)
		return 0
	}
	again, _, why := parse.Expr(s)
	if why != api.OK || unplaced(again) != unplaced(e) {
		t.Errorf("%s is read as %s, not %s", s, brief(again), brief(e))
	}
	count := 0
	l := tokens(s)
	var open []int
	for i, x := range l {
		switch {
		case x.Kind == api.Sign && x.Text == "(":
			open = append(open, i)
		case x.Kind == api.Sign && x.Text == ")":
			from := open[len(open)-1]
			open = open[:len(open)-1]
			if from > 0 && strings.Contains(" cast length substr coalesce in varchar ", " "+l[from-1].Text+" ") {
				continue
			}
			count++
			without := s[:l[from].At] + " " + s[l[from].At+1:x.At] + " " + s[x.At+1:]
			if other, _, why := parse.Expr(without); why == api.OK && unplaced(other) == unplaced(e) {
				t.Errorf("%s: is read alike without the bracket at %d", s, l[from].At)
			}
		}
	}
	return count
}

// P9.2: brackets stand just where a Part would be read otherwise: each Op in each place of each other one, and those in each place of a third one.
func TestBrackets(t *testing.T) {
	some := strings.Fields("or and not = like in + - * neg case column")
	brackets := 0
	for _, inner := range opNames() {
		for _, outer := range opNames() {
			for place := range ops()[outer] {
				e := made(outer, place, made(inner, -1, api.Expr{}))
				brackets += bracketed(t, e)
				for _, third := range append(some, "is null") {
					if slices.Contains(some, inner) || inner == "is null" {
						for place := range ops()[third] {
							brackets += bracketed(t, made(third, place, e))
						}
					}
				}
			}
		}
	}
	if brackets < 1000 {
		t.Error("too few brackets:", brackets)
	}
}

// P9.2: which Parts of which lines come in brackets, on each side; the lines from the one that binds least on.
func TestBracketsByLines(t *testing.T) {
	byLine := []string{"or", "and", "not", "=", "+", "*", "neg", "length"}
	for i, outer := range byLine {
		for j, inner := range byLine {
			for place := range ops()[outer] {
				e := made(outer, place, made(inner, -1, api.Expr{}))
				want := 0
				left := outer == "or" || outer == "and" || outer == "+" || outer == "*" || outer == "not" || outer == "neg"
				if j < i || j == i && (!left || place == 1) {
					want = 1
				}
				if outer == "length" {
					want = 0
				}
				if got := bracketed(t, e); got != want {
					s, _ := parse.PrintExpr(e)
					t.Errorf("%s: %d brackets, not %d", s, got, want)
				}
			}
		}
	}
}

// P9.2: expressions put together of anything.
func TestAnyExpressions(t *testing.T) {
	r := rand.New(rand.NewSource(92))
	for range 2000 {
		bracketed(t, anyTree(r, 1+r.Intn(5)))
	}
}

// anyTree is an expression that can be written, of any Ops in one another.
func anyTree(r *rand.Rand, deep int) api.Expr {
	names := opNames()
	op := names[r.Intn(len(names))]
	if deep == 0 {
		op = []string{"value", "column", "param"}[r.Intn(3)]
	}
	e := made(op, -1, api.Expr{})
	for i := range e.Parts {
		e.Parts[i] = anyTree(r, deep-1)
	}
	if op == "in" {
		e.Parts = e.Parts[:2+r.Intn(2)]
	}
	return e
}
