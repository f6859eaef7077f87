package parse_test

import (
	"slices"
	"strings"
	"testing"

	"lockstep/api"
	"lockstep/parse"
)

// row is n times the same, with something between.
func row(n int, one, between string) string {
	return strings.Repeat(one+between, n-1) + one
}

// listed is texts with a list in them: what stands ahead, one of it, what stands between two, what stands behind; how many it may have, and how many a text has that was read; and which tokens may stand where one more would begin, as they end it, or begin something else.
type listed struct {
	ahead, one, between, behind string
	most                        int
	count                       func(s string) (int, int, api.Errno)
	others                      []string
}

func lists() []listed {
	stmt := func(count func(x api.Stmt) int) func(string) (int, int, api.Errno) {
		return func(s string) (int, int, api.Errno) {
			x, at, why := parse.Stmt(s)
			if why != api.OK {
				return 0, at, why
			}
			return count(x), at, why
		}
	}
	schema := func(count func(l []api.Decl) int) func(string) (int, int, api.Errno) {
		return func(s string) (int, int, api.Errno) {
			l, at, why := parse.Schema(s)
			if why != api.OK {
				return 0, at, why
			}
			return count(l), at, why
		}
	}
	table := func(count func(d api.Decl) int) func(string) (int, int, api.Errno) {
		return schema(func(l []api.Decl) int { return count(l[0]) })
	}
	keyWords := []string{"primary", "unique", "index"}
	notKeys := slices.DeleteFunc(append(kinds(), ""), func(s string) bool { return slices.Contains(keyWords, s) })
	return []listed{
		{"select ", "a", " , ", " from t", 16, stmt(func(x api.Stmt) int { return len(x.Items) }), nil},
		{"select ", "count ( * )", " , ", " from t", 16, stmt(func(x api.Stmt) int { return len(x.Items) }), nil},
		{"select a from t join ", "u on a", " join ", "", 3, stmt(func(x api.Stmt) int { return len(x.From) - 1 }), nil},
		{"select a from t group by ", "a", " , ", " limit 1", 16, stmt(func(x api.Stmt) int { return len(x.Group) }), nil},
		{"select a from t order by ", "a", " , ", " limit 1", 16, stmt(func(x api.Stmt) int { return len(x.Order) }), nil},
		{"select a from t order by ", "a desc", " , ", "", 16, stmt(func(x api.Stmt) int { return len(x.Order) }), nil},
		{"insert into t ( ", "a", " , ", " ) values ( 1 )", 16, stmt(func(x api.Stmt) int { return len(x.Cols) }), nil},
		{"insert into t ( a ) values ( ", "a + 1", " , ", " )", 16, stmt(func(x api.Stmt) int { return len(x.Values) }), nil},
		{"update t set ", "a = 1", " , ", " where a", 16, stmt(func(x api.Stmt) int { return len(x.Sets) }), nil},
		{"delete from t where a in ( ", "1", " , ", " )", 64, stmt(func(x api.Stmt) int { return len(x.Where.Parts) - 1 }), nil},
		{"delete from t where a not in ( ", "1", " , ", " )", 64, stmt(func(x api.Stmt) int { return len(x.Where.Parts[0].Parts) - 1 }), nil},
		{"create table t ( primary key ( a ) , ", "a bigint", " , ", " ) ;", 16, table(func(d api.Decl) int { return len(d.Table.Cols) }), keyWords},
		{"create table t ( ", "a bigint not null", " , ", " ) ;", 16, table(func(d api.Decl) int { return len(d.Table.Cols) }), keyWords},
		{"create table t ( a bigint , ", "unique u ( a )", " , ", " ) ;", 16, table(func(d api.Decl) int { return len(d.Table.Keys) - 1 }), notKeys},
		{"create table t ( a bigint , primary key ( a ) , ", "index i ( a )", " , ", " ) ;", 15, table(func(d api.Decl) int { return len(d.Table.Keys) - 1 }), append(slices.Clone(notKeys), "primary")},
		{"create table t ( " + row(16, "a bigint", " , ") + " , ", "index i ( a )", " , ", " ) ;", 16, table(func(d api.Decl) int { return len(d.Table.Keys) - 1 }), nil},
		{"create table t ( a bigint , primary key ( ", "a", " , ", " ) ) ;", 4, table(func(d api.Decl) int { return len(d.Cols[0]) }), nil},
		{"create table t ( a bigint , unique u ( ", "a", " , ", " ) ) ;", 4, table(func(d api.Decl) int { return len(d.Cols[1]) }), nil},
		{"create table t ( a bigint , index i ( ", "a", " , ", " ) ) ;", 4, table(func(d api.Decl) int { return len(d.Cols[1]) }), nil},
		{"create procedure f ( ", "a bigint", " , ", " ) as begin delete from t ; end ;", 16, table(func(d api.Decl) int { return len(d.Proc.Params) }), nil},
		{"create procedure f ( ) as begin ", "delete from t ;", " ", " end ;", 32, table(func(d api.Decl) int { return len(d.Proc.Steps) }), []string{"end"}},
		{"create procedure f ( ) as begin ", "abort 'x' if a ;", " ", " end ;", 32, table(func(d api.Decl) int { return len(d.Proc.Steps) }), []string{"end"}},
		{"", "create table t ( a bigint ) ;", " ", "", 256, schema(func(l []api.Decl) int { return len(l) }), []string{""}},
	}
}

// P9.1: each list at its greatest length, and with one more; where that would begin any token is refused.
func TestLists(t *testing.T) {
	for _, x := range lists() {
		for _, n := range []int{1, 2, x.most - 1, x.most} {
			if got, at, why := x.count(x.ahead + row(n, x.one, x.between) + x.behind); got != n || at != 0 || why != api.OK {
				t.Errorf("%s%s..: %d %d %v, not %d", x.ahead, x.one, got, at, why, n)
			}
		}
		full := x.ahead + row(x.most, x.one, x.between) + x.between
		refused := func(s string) {
			t.Helper()
			if _, at, why := x.count(full + s); at != len(full) || why != api.ErrLong {
				t.Errorf("%s%s.. and %q: %d %v, not %d %v", x.ahead, x.one, s, at, why, len(full), api.ErrLong)
			}
		}
		for _, kind := range kinds() {
			if !slices.Contains(x.others, kind) {
				refused(kind)
				refused(kind + " " + x.one)
			}
		}
		if !slices.Contains(x.others, "") {
			refused("")
		}
		if !slices.Contains(x.others, strings.Fields(x.one)[0]) {
			refused(x.one + x.behind)
		}
	}
}

// P9.1: where a table is full of columns a key may begin, and where it is full of keys a column; a second PRIMARY is refused as such wherever it stands.
func TestFullTables(t *testing.T) {
	columns, keys := row(16, "a bigint", ", "), row(15, "index i (a)", ", ")
	primary := "primary key (a)"
	ahead := "create table t ("
	for _, body := range []string{columns, "a bigint, " + keys + ", unique u (b)", columns + ", " + keys + ", " + primary, primary + ", " + keys + ", " + columns, keys + ", " + columns + ", " + primary, columns + ", " + keys + ", unique u (b)", keys + ", unique u (b), " + columns} {
		if _, at, why := parse.Schema(ahead + body + ");"); at != 0 || why != api.OK {
			t.Errorf("%s: %d %v", body, at, why)
		}
	}
	for _, x := range []struct {
		body, more string
		why        api.Errno
	}{
		{columns + ", " + keys + ", unique u (b)", "primary", api.ErrLong}, {columns + ", " + keys + ", unique u (b)", "unique", api.ErrLong}, {columns + ", " + keys + ", unique u (b)", "c", api.ErrLong}, {columns + ", " + keys + ", unique u (b)", ")", api.ErrLong},
		{columns + ", " + keys + ", " + primary, "primary", api.ErrForm}, {columns + ", " + keys + ", " + primary, "primary key (a)", api.ErrForm}, {columns + ", " + keys + ", " + primary, "index", api.ErrLong}, {columns + ", " + primary, "PRIMARY", api.ErrForm}, {columns + ", " + primary, "\"primary\"", api.ErrLong},
		{"a bigint, " + keys + ", " + primary, "primary", api.ErrForm}, {"a bigint, " + keys + ", " + primary, "unique", api.ErrLong}, {"a bigint, " + keys + ", " + primary, ")", api.ErrForm}, {"a bigint, " + keys + ", " + primary, "", api.ErrShort}, {"a bigint, " + keys + ", " + primary, "select", api.ErrForm}, {"a bigint, " + keys + ", unique u (a)", "primary", api.ErrLong},
	} {
		refuses(t, parse.Schema, ahead+x.body+", "+x.more, len(ahead+x.body)+2, x.why)
	}
}

// begins are texts of expressions: ^ stands ahead of each token at whose place an expression is begun, as often as one is; in their order.
func begins() []string {
	return []string{
		"^a", "^t.a", "^:p", "^1", "^'x'", "^null", "^true", "^false", "( ^a )", "^not ^a", "^- ^1", "^a ^+ ^b", "^a ^- ^b", "^a ^|| ^b", "^a ^* ^b", "^a ^/ ^b", "^a ^= ^b", "^a ^<> ^b", "^a ^< ^b", "^a ^<= ^b", "^a ^> ^b", "^a ^>= ^b",
		"^a ^is null", "^a is ^^not null", "^a ^like ^b", "^a ^^not like ^b", "^a ^in ( ^b )", "^a ^in ( ^b , ^c )", "^a ^^not in ( ^b , ^c )", "^cast ( ^a as bigint )", "^length ( ^a )", "^substr ( ^a , ^b , ^c )", "^coalesce ( ^a , ^b )", "^case when ^a then ^b else ^c end", "^- ^- ^a ^* ^b", "^not ^a is ^^not null", "^not ^not ^a ^= ( ^b )",
	}
}

// split is such a text without its marks, and the places of those.
func split(marked string) (string, []int) {
	var s []byte
	var at []int
	for _, c := range []byte(marked) {
		if c == '^' {
			at = append(at, len(s))
		} else {
			s = append(s, c)
		}
	}
	return string(s), at
}

// filled is a text of n expressions, behind which another one may stand that OR does not reach into.
func filled(n int) string {
	s := ""
	if n%2 == 1 {
		s = "not "
		n--
	}
	return s + strings.Repeat("a or ", n/2)
}

// around is a text in which an expression may stand, of a kind, and how many others are begun ahead of it and behind it.
type around struct {
	kind, ahead, behind string
	before, after       int
}

func wholes() []around {
	return []around{
		{"expr", "", "", 0, 0},
		{"stmt", "delete from t where ", "", 0, 0},
		{"stmt", "update t set a = ", ", b = 1 where c", 0, 2},
		{"stmt", "update t set b = 1 where ", "", 1, 0},
		{"stmt", "insert into t (a, b) values (1, ", ", 2)", 1, 1},
		{"stmt", "select sum(", ") from t limit 1", 0, 1},
		{"stmt", "select a, count(*), ", " as x from t limit :n", 1, 1},
		{"stmt", "select a + b from t join u on ", " where c group by d, e", 3, 3},
		{"stmt", "select count(*) from t where ", " order by a, b desc", 0, 0},
		{"stmt", "select a from t group by b, ", " having c = d", 2, 3},
		{"stmt", "select a from t having ", " order by a limit 5", 1, 1},
		{"schema", "create procedure f () as begin abort 'x' if ", "; end;", 0, 0},
		{"schema", "create procedure f () as begin let n = select ", " from t; end;", 0, 0},
		{"schema", "create procedure f () as begin delete from t where a or b; delete from t where a and ", "; abort 'x' if a or b; end;", 2, 0},
		{"schema", "create procedure f () as begin abort 'x' if " + filled(255) + "a; abort 'x' if ", "; delete from t where " + filled(255) + "a; end;", 0, 0},
	}
}

// refusedAt is what is wrong with a text of a kind.
func refusedAt(kind, s string) fault {
	at, why := 0, api.OK
	switch kind {
	case "expr":
		_, at, why = parse.Expr(s)
	case "stmt":
		_, at, why = parse.Stmt(s)
	default:
		_, at, why = parse.Schema(s)
	}
	return fault{at, why}
}

// P9.1: the 257th expression, whichever it is, at its place, whatever stands behind that; 256 are read.
func TestTooManyExpressions(t *testing.T) {
	for _, w := range wholes() {
		for _, marked := range begins() {
			s, places := split(marked)
			if got := refusedAt(w.kind, w.ahead+filled(256-w.before-w.after-len(places))+s+w.behind); got != (fault{}) {
				t.Errorf("%s.. %s: %v", w.ahead, s, got)
			}
			for i, place := range places {
				begin := w.ahead + filled(256-w.before-i)
				want := fault{len(begin) + place, api.ErrLong}
				for _, whole := range []string{s + w.behind, s[:place] + strings.Fields(s[place:])[0], s + " ) 1"} {
					if got := refusedAt(w.kind, begin+whole); got != want {
						t.Errorf("%s.. %s, the 257th at %d: %v, not %v", w.ahead, whole, place, got, want)
					}
				}
			}
		}
	}
}

// P9.1: as many expressions as may be, wherever they stand in a statement; and one more, the last one, at its place: a bound, too.
func TestLastExpressions(t *testing.T) {
	full := "delete from t where " + filled(255) + "a"
	reads := func(s string, want fault) {
		t.Helper()
		if got := refusedAt("stmt", s); got != want {
			t.Errorf("%s: %v, not %v", short(s), got, want)
		}
	}
	reads(full, fault{})
	reads(full+" and b", fault{len(full) + 1, api.ErrLong})
	bounded := "select " + filled(254) + "a from t"
	reads(bounded+" limit 1", fault{})
	reads(bounded+" limit :n", fault{})
	reads(bounded+" order by a, b, c", fault{})
	more := "select " + filled(255) + "a from t"
	reads(more, fault{})
	reads(more+" limit 1", fault{len(more) + 7, api.ErrLong})
	reads(more+" limit :n", fault{len(more) + 7, api.ErrLong})
	reads(more+" limit 1.5", fault{len(more) + 7, api.ErrForm})
	reads(more+" limit", fault{len(more) + 6, api.ErrShort})
}

// P9.1: what begins the 257th expression is told ahead of what can't stand behind it; what begins none is not.
func TestTooManyAndWrong(t *testing.T) {
	for s, want := range map[string]int{"a is 1": 2, "a is": 2, "a is not 1": 5, "a not 1": 2, "a not": 2, "a not like )": 2, "a + )": 2, "a in 1": 2, "a in (": 2} {
		begin := filled(255)
		if got := refusedAt("expr", begin+s); got != (fault{len(begin) + want, api.ErrLong}) {
			t.Errorf("%s: %v, not at %d", s, got, len(begin)+want)
		}
	}
	// Of two that are begun in one place the second one is told there, too.
	for s, want := range map[string]fault{"a is 1": {5, api.ErrForm}, "a is": {4, api.ErrShort}, "a is null": {}, "a is not 1": {5, api.ErrLong}, "a is not null": {5, api.ErrLong}, "a is not": {5, api.ErrLong}, "a not like": {2, api.ErrLong}, "a not in": {2, api.ErrLong}, "a not 1": {2, api.ErrLong}, "a like": {6, api.ErrShort}, "a like )": {7, api.ErrForm}} {
		begin := filled(254)
		if want.why != api.OK {
			want.at += len(begin)
		}
		if got := refusedAt("expr", begin+s); got != want {
			t.Errorf("%s: %v, not %v", s, got, want)
		}
	}
	for s, why := range map[string]api.Errno{"": api.ErrShort, ")": api.ErrForm, "select": api.ErrForm, "count(*)": api.ErrForm, "=": api.ErrForm, "a": api.ErrLong, "cast": api.ErrLong, "case": api.ErrLong, "-": api.ErrLong, "not": api.ErrLong, "'x'": api.ErrLong} {
		begin := filled(256)
		if got := refusedAt("expr", begin+s); got != (fault{len(begin), why}) {
			t.Errorf("%s: %v, not %v", s, got, why)
		}
	}
}

// wrap is a text that lies around an expression: what stands ahead of it, what behind it; and where, from its beginning, it is told that it lies too deep: at its bracket, else at the first expression that lies in it.
type wrap struct {
	ahead, behind string
	told          int
}

func wraps() []wrap {
	return []wrap{
		{"( ", " )", 0}, {"not ", "", 4}, {"- ", "", 2}, {"case when ", " then b else c end", 10}, {"case when b then ", " else c end", 10}, {"case when b then c else ", " end", 10},
		{"cast ( ", " as bigint )", 5}, {"cast ( ", " as varchar ( 3 ) )", 5}, {"length ( ", " )", 7}, {"substr ( ", " , b , c )", 7}, {"substr ( b , ", " , c )", 7}, {"substr ( b , c , ", " )", 7}, {"coalesce ( ", " , b )", 9}, {"coalesce ( b , ", " )", 9},
		{"b in ( ", " )", 5}, {"b in ( c , ", " , d )", 5}, {"b not in ( ", " )", 9}, {"b + ( ", " )", 4}, {"b and ( ", " ) or c", 6}, {"b * case when c then d else ", " end", 14}, {"b like case when ", " then c else d end", 17},
	}
}

// deep lays wraps around an expression, the first one outermost, and tells where that stands.
func deep(l []wrap, inner string) (s string, at int) {
	ahead, behind := "", ""
	for _, w := range l {
		ahead, behind = ahead+w.ahead, w.behind+behind
	}
	return ahead + inner + behind, len(ahead)
}

// P9.1: 16 things in one another are read; of 17 a bracket is refused at itself, all else at the expression that lies in it.
func TestTooDeep(t *testing.T) {
	for _, w := range wraps() {
		l := slices.Repeat([]wrap{w}, 17)
		for n := range 17 {
			s, _ := deep(l[:n], "a")
			if got := refusedAt("expr", s); got != (fault{}) {
				t.Errorf("%d in one another: %s: %v", n, s, got)
			}
		}
		s, _ := deep(l, "a")
		at := 16*len(w.ahead) + w.told
		for _, s := range []string{s, s[:at+1]} {
			if got := refusedAt("expr", s); got != (fault{at, api.ErrLong}) {
				t.Errorf("17 in one another: %s: %v, not at %d", s, got, at)
			}
		}
	}
}

// P9.1: things of different kinds in one another count together; what lies beside does not.
func TestMixedDeep(t *testing.T) {
	open, minus, no, choice, call := wrap{"( ", " )", 0}, wrap{"- ", "", 2}, wrap{"not ", "", 4}, wrap{"case when ", " then b else c end", 10}, wrap{"length ( ", " )", 7}
	mixed := []wrap{no, open, no, no, open, minus, open, no, choice, no, minus, minus, choice, call, no, open}
	beside := " or " + row(16, "(", " ") + " b " + row(16, ")", " ") + " and " + strings.Repeat("not ", 16) + "c like d"
	s, at := deep(mixed, "a")
	for _, s := range []string{s, s + beside, "(b) and " + s} {
		if got := refusedAt("expr", s); got != (fault{}) {
			t.Errorf("%s: %v", s, got)
		}
	}
	for inner, place := range map[string]int{"( a )": 0, "- a": 2, "- 1": 2, "- ( a )": 2, "- - a": 2, "not a": 4, "case when a then b else c end": 10, "case when ( a ) then b else c end": 10, "length ( a )": 7, "cast ( a as bigint )": 5, "b + ( a )": 4, "b * - a": 6, "a = ( b )": 4, "b in ( a )": 5, "b not in ( a )": 9, "b + - a": 6} {
		s, _ := deep(mixed, inner)
		if got := refusedAt("expr", s); got != (fault{at + place, api.ErrLong}) {
			t.Errorf("%s: %v, not at %d", s, got, at+place)
		}
	}
	for inner, why := range map[string]api.Errno{"- )": api.ErrForm, "- select": api.ErrForm, "-": api.ErrShort, "length": api.ErrShort, "case": api.ErrShort, "case when": api.ErrShort, "case when )": api.ErrForm} {
		s := strings.Repeat("( ", 16)
		want := fault{len(s + inner), why}
		if why == api.ErrForm {
			want.at = len(s) + strings.LastIndex(inner, " ") + 1
		}
		if got := refusedAt("expr", s+inner); got != want {
			t.Errorf("%s%s: %v, not %v", s, inner, got, want)
		}
	}
	// Neither a sign between Parts, nor the NOT of a test, nor a type's bracket makes anything lie deeper.
	for _, inner := range []string{"a - b - c - d", "a is not null", "a not like b", "a and not_b", "t.a", "cast"} {
		s := strings.Repeat("( ", 16) + inner
		if inner == "cast" {
			s = strings.Repeat("( ", 15) + "cast ( a as varchar ( 3 ) )" + strings.Repeat(" )", 15)
		} else {
			s += strings.Repeat(" )", 16)
		}
		if got := refusedAt("expr", s); got != (fault{}) {
			t.Errorf("%s: %v", s, got)
		}
	}
}

// P9.1: the brackets of an aggregate and of VALUES are brackets as all others; those of an INSERT's names are closed.
func TestDeepStatements(t *testing.T) {
	for _, x := range []struct {
		ahead, behind string
		most          int
	}{
		{"delete from t where ", "", 16}, {"update t set a = ", "", 16}, {"select ", " from t", 16}, {"select a from t join u on ", "", 16}, {"select a from t group by ", "", 16}, {"select a from t having ", "", 16},
		{"insert into t (a) values (", ")", 15}, {"insert into t (a) values (1, ", ")", 15}, {"select sum(", ") from t", 15}, {"select count(distinct ", ") from t", 15}, {"select count(*), ", " from t", 16},
	} {
		fine := x.ahead + strings.Repeat("(", x.most) + "a" + strings.Repeat(")", x.most) + x.behind
		if got := refusedAt("stmt", fine); got != (fault{}) {
			t.Errorf("%s: %v", fine, got)
		}
		not := x.ahead + strings.Repeat("(", x.most) + "not a" + strings.Repeat(")", x.most) + x.behind
		if got := refusedAt("stmt", not); got != (fault{len(x.ahead) + x.most + 4, api.ErrLong}) {
			t.Errorf("%s: %v", not, got)
		}
		deeper := x.ahead + strings.Repeat("(", x.most+1) + "a" + strings.Repeat(")", x.most+1) + x.behind
		if got := refusedAt("stmt", deeper); got != (fault{len(x.ahead) + x.most, api.ErrLong}) {
			t.Errorf("%s: %v", deeper, got)
		}
	}
	procedure := "create procedure f (p varchar(3)) as begin abort 'x' if "
	for n, want := range map[int]fault{16: {}, 17: {len(procedure) + 16, api.ErrLong}} {
		if got := refusedAt("schema", procedure+strings.Repeat("(", n)+"a"+strings.Repeat(")", n)+"; end;"); got != want {
			t.Errorf("%d: %v, not %v", n, got, want)
		}
	}
}
