package parse_test

import (
	"math/rand"
	"strings"
	"testing"

	"lockstep/api"
	"lockstep/lex"
	"lockstep/parse"
)

// lines are the chapter's grammar, an alternative a line; what begins several alternatives is said once. A table's elements are told apart by what stands ahead of them: c a column, p the PRIMARY; in e.. an element must come, in t.. something behind one.
const lines = `
schema {decl}
decl CREATE TABLE name ( e [PARTITION BY name] [LIMIT small] ;
decl CREATE PROCEDURE name ( [param {, param}] ) [PARTITION BY name] AS BEGIN step ; {step ;} END ;
e column tc
e primary tp
e other t
ec column tc
ec primary tcp
ec other tc
ep column tcp
ep other tp
ecp column tcp
ecp other tcp
t , e
tc , ec
tc )
tp , ep
tcp , ecp
tcp )
column name type [NOT NULL]
primary PRIMARY KEY names
other UNIQUE name names
other INDEX name names
names ( name {, name} )
param name type
type BIGINT
type DECIMAL
type BOOLEAN
type VARCHAR ( small )
step stmt
step LET name = select
step ABORT text IF expr
stmt select
stmt INSERT INTO name names VALUES ( expr {, expr} )
stmt UPDATE name SET name = expr {, name = expr} [WHERE expr]
stmt DELETE FROM name [WHERE expr]
select SELECT [DISTINCT] item {, item} FROM from {JOIN from ON expr} [WHERE expr] [GROUP BY expr {, expr}] [HAVING expr] [ORDER BY order {, order}] [LIMIT bound]
item agg [AS name]
item expr [AS name]
agg COUNT ( counted )
agg SUM ( [DISTINCT] expr )
agg MIN ( [DISTINCT] expr )
agg MAX ( [DISTINCT] expr )
agg AVG ( [DISTINCT] expr )
counted *
counted [DISTINCT] expr
from name [AS name]
order name [ASC]
order name DESC
bound number
bound parameter
expr a {OR a}
a b {AND b}
b NOT b
b c
c d [test]
test = d
test <> d
test < d
test <= d
test > d
test >= d
test IS [NOT] NULL
test [NOT] LIKE d
test [NOT] IN ( expr {, expr} )
d m {plus m}
plus +
plus -
plus ||
m u {times u}
times *
times /
u - u
u v
v literal
v NULL
v TRUE
v FALSE
v parameter
v name [. name]
v ( expr )
v CAST ( expr AS type )
v LENGTH ( expr )
v SUBSTR ( expr , expr , expr )
v COALESCE ( expr , expr )
v CASE WHEN expr THEN expr ELSE expr END`

// symbol is something that a line of the grammar says: a token or a line of that name; or what may come any number of times, or be left out.
type symbol struct {
	name            string
	inner           []symbol
	repeated, maybe bool
}

// grammar is the alternatives of each line, by its name.
type grammar map[string][][]symbol

func theGrammar() grammar {
	g := grammar{}
	for _, line := range strings.Split(strings.TrimSpace(lines), "\n") {
		for _, meta := range []string{"{", "}", "[", "]"} {
			line = strings.ReplaceAll(line, meta, " "+meta+" ")
		}
		words := strings.Fields(line)
		alternative, _ := symbols(words[1:])
		g[words[0]] = append(g[words[0]], alternative)
	}
	return g
}

// symbols reads words up to one that closes, and tells what is left behind it.
func symbols(words []string) ([]symbol, []string) {
	var l []symbol
	for len(words) > 0 {
		word := words[0]
		words = words[1:]
		switch word {
		case "}", "]":
			return l, words
		case "{", "[":
			s := symbol{repeated: word == "{", maybe: word == "["}
			s.inner, words = symbols(words)
			l = append(l, s)
		default:
			l = append(l, symbol{name: word})
		}
	}
	return l, nil
}

// rest is what must still come: symbols, one behind the other.
type rest struct {
	first symbol
	then  *rest
}

func ahead(l []symbol, then *rest) *rest {
	for i := len(l) - 1; i >= 0; i-- {
		then = &rest{l[i], then}
	}
	return then
}

// expect tells all rests that one may be, each of which begins with a token; nil, if nothing more must come.
func (g grammar) expect(r *rest, tell func(*rest)) {
	switch {
	case r == nil:
		tell(nil)
	case r.first.repeated:
		g.expect(ahead(r.first.inner, r), tell)
		g.expect(r.then, tell)
	case r.first.maybe:
		g.expect(ahead(r.first.inner, r.then), tell)
		g.expect(r.then, tell)
	case g[r.first.name] == nil:
		tell(r)
	default:
		for _, alternative := range g[r.first.name] {
			g.expect(ahead(alternative, r.then), tell)
		}
	}
}

// fits tells whether a token is what the grammar says.
func fits(t api.Token, what string) bool {
	switch what {
	case "name":
		return t.Kind == api.Quoted || t.Kind == api.Word && !strings.Contains(sqlWords, " "+t.Text+" ")
	case "literal":
		return t.Kind == api.Literal
	case "text":
		return t.Kind == api.Literal && t.Value.Type == api.Text
	case "number":
		return t.Kind == api.Literal && t.Value.Type == api.BigInt
	case "small":
		return t.Kind == api.Literal && t.Value.Type == api.BigInt && t.Value.Int >= 1 && t.Value.Int <= 4096
	case "parameter":
		return t.Kind == api.Param
	}
	return (t.Kind == api.Word || t.Kind == api.Sign) && t.Text == strings.ToLower(what)
}

// judge is what is wrong with a text of which the whole is a line of the grammar, limits left out: all that may come is tried side by side, token by token.
func (g grammar) judge(s, whole string) fault {
	tokens, at, why := lex.Tokens(s)
	if why != api.OK {
		return fault{at, why}
	}
	now := []*rest{ahead([]symbol{{name: whole}}, nil)}
	for _, t := range tokens {
		var next []*rest
		over := false
		for _, r := range now {
			g.expect(r, func(r *rest) {
				over = over || r == nil
				if r != nil && fits(t, r.first.name) {
					next = append(next, r.then)
				}
			})
		}
		switch {
		case t.Kind == api.End && !over:
			return fault{t.At, api.ErrShort}
		case t.Kind == api.End:
			return fault{}
		case len(next) == 0 && over && whole != "schema":
			return fault{t.At, api.ErrMore}
		case len(next) == 0:
			return fault{t.At, api.ErrForm}
		}
		now = next
	}
	return fault{}
}

// judged checks whether a text is refused just where the grammar has it.
func judged(t *testing.T, g grammar, s, whole string) fault {
	t.Helper()
	at, why := 0, api.OK
	switch whole {
	case "expr":
		_, at, why = parse.Expr(s)
	case "stmt":
		_, at, why = parse.Stmt(s)
	default:
		_, at, why = parse.Schema(s)
	}
	want := g.judge(s, whole)
	if (fault{at, why}) != want {
		t.Errorf("%s %q: %d %v, not %d %v", whole, s, at, why, want.at, want.why)
	}
	return want
}

// kinds is a token of each kind, and each word and sign that the grammar has.
func kinds() []string {
	l := strings.Fields(sqlWords)
	return append(l, "a", "B", `"A"`, `"select"`, "0", "1", "4096", "4097", "9223372036854775807", "1.0", "0.5", "''", "'1'", "'a'", ":p", ":select",
		"(", ")", ",", ";", ".", "*", "+", "-", "/", "=", "<", ">", "<=", ">=", "<>", "||")
}

// samples are texts in which each line of the grammar stands, with and without what may be left out, and with what may come any number of times none, once and twice.
func samples() map[string][]string {
	return map[string][]string{
		"expr": {
			"a", "t . a", "1", "1.5", "'x'", ":p", "null", "true", "false", "( a )", "( ( a ) )", "cast ( a as bigint )", "cast ( a as decimal )", "cast ( a as boolean )", "cast ( a as varchar ( 3 ) )", "length ( a )", "substr ( a , 1 , 2 )", "coalesce ( a , b )", "case when a then b else c end",
			"- a", "- - 1", "a * b", "a / b", "a * b / c", "a + b", "a - b", "a || b", "a + b - c", "- a * - b + c", "a = b", "a <> b", "a < b", "a <= b", "a > b", "a >= b", "a is null", "a is not null", "a like b", "a not like b", "a in ( b )", "a in ( b , c )", "a not in ( b , c , d )",
			"not a", "not not a", "not a = b", "a and b", "a and b and c", "a or b", "a or b or c", "a or b and not c", "( a = b ) = c", "a + b in ( c or d , not e ) and f",
		},
		"stmt": {
			"select a from t", "select distinct a from t", "select a , b from t", "select a , b , c from t", "select a as x from t", "select a + 1 as x , b from t as u", "select count ( * ) from t", "select count ( * ) as n from t", "select count ( a ) , count ( distinct a ) from t", "select sum ( a ) , min ( a ) , max ( a ) , avg ( a ) from t", "select sum ( distinct a ) as s , min ( distinct a ) , max ( distinct a ) , avg ( distinct a ) from t",
			"select a from t join u on b", "select a from t as x join u as y on b join v on c", "select a from t where b", "select a from t group by b", "select a from t group by b , c , d", "select a from t having b", "select a from t order by b", "select a from t order by b asc", "select a from t order by b desc", "select a from t order by b , c asc , d desc", "select a from t limit 0", "select a from t limit 1", "select a from t limit 9223372036854775807", "select a from t limit :p",
			"select distinct a from t join u on b where c group by d having e order by f limit 1", "insert into t ( a ) values ( 1 )", "insert into t ( a , b ) values ( 1 , 2 )", "insert into t ( a , b , c ) values ( 1 )", "update t set a = 1", "update t set a = 1 , b = 2 , c = 3", "update t set a = 1 where b", "delete from t", "delete from t where a",
		},
		"schema": {
			"", "create table t ( a bigint ) ;", "create table t ( a decimal , b boolean not null , c varchar ( 1 ) , d varchar ( 4096 ) not null ) ;", "create table t ( primary key ( a ) , a bigint ) ;", "create table t ( unique u ( a ) , index i ( a , b ) , primary key ( a , b , c ) , a bigint , unique v ( b ) ) ;",
			"create table t ( a bigint ) partition by a ;", "create table t ( a bigint ) limit 1 ;", "create table t ( a bigint ) partition by a limit 4096 ; create table u ( b bigint ) ;",
			"create procedure f ( ) as begin delete from t ; end ;", "create procedure f ( p bigint ) as begin delete from t ; end ;", "create procedure f ( p bigint , q varchar ( 3 ) , r boolean ) partition by p as begin select a from t ; let n = select b from t ; abort 'x' if :n > 1 ; insert into t ( a ) values ( 1 ) ; update t set a = 1 ; end ;",
			"create procedure f ( ) as begin abort '' if a ; end ; create table t ( a bigint ) ; create procedure g ( ) as begin let n = select a from t ; end ;",
		},
	}
}

// P9.1: of each sample each beginning, with the End behind it and with each kind of token, alone and ahead of what stood there, or in its place.
func TestEachPlace(t *testing.T) {
	g := theGrammar()
	seen := map[api.Errno]int{}
	for whole, l := range samples() {
		for _, s := range l {
			if wrong := judged(t, g, s, whole); wrong.why != api.OK {
				t.Errorf("%s %q is none: %v", whole, s, wrong)
			}
			tokens := strings.Fields(s)
			for i := range len(tokens) + 1 {
				before := strings.Join(tokens[:i], " ")
				seen[judged(t, g, before, whole).why]++
				for _, kind := range kinds() {
					seen[judged(t, g, before+" "+kind, whole).why]++
					seen[judged(t, g, before+" "+kind+" "+strings.Join(tokens[i:], " "), whole).why]++
					if i < len(tokens) {
						seen[judged(t, g, before+" "+kind+" "+strings.Join(tokens[i+1:], " "), whole).why]++
					}
				}
			}
		}
	}
	for _, why := range []api.Errno{api.OK, api.ErrForm, api.ErrShort, api.ErrMore} {
		if seen[why] < 1000 {
			t.Error("too few of a kind:", seen)
		}
	}
}

// P9.1: all short texts of some tokens.
func TestShortTexts(t *testing.T) {
	g := theGrammar()
	tokens := strings.Fields("a 1 :p ( ) , . - + * = not and or is null like in case")
	var all func(s string, n int)
	all = func(s string, n int) {
		judged(t, g, s, "expr")
		if n == 0 {
			return
		}
		for _, token := range tokens {
			all(s+" "+token, n-1)
		}
	}
	all("", 4)
}

// P9.1: made texts of which tokens are dropped, doubled, put in another place, or others put in theirs.
func TestBentTexts(t *testing.T) {
	g := theGrammar()
	r := rand.New(rand.NewSource(91))
	other := kinds()
	bend := func(s, whole string) {
		tokens, _, why := lex.Tokens(s)
		if why != api.OK || len(tokens) < 2 || len(tokens) > 150 {
			return
		}
		var pieces []string
		for i, x := range tokens[:len(tokens)-1] {
			pieces = append(pieces, s[x.At:tokens[i+1].At]+" ")
		}
		for range 1 + r.Intn(2) {
			i, j := r.Intn(len(pieces)), r.Intn(len(pieces))
			switch r.Intn(4) {
			case 0:
				pieces[i] = ""
			case 1:
				pieces[i] += pieces[i]
			case 2:
				pieces[i], pieces[j] = pieces[j], pieces[i]
			case 3:
				pieces[i] = other[r.Intn(len(other))] + " "
			}
		}
		judged(t, g, strings.Join(pieces, ""), whole)
	}
	for i := range 12000 {
		m := newMaker(int64(i) + 1<<33)
		switch i % 3 {
		case 0:
			m.expr(2)
			bend(m.end(), "expr")
		case 1:
			m.stmt()
			bend(m.end(), "stmt")
		default:
			m.schema()
			bend(m.end(), "schema")
		}
	}
}
