package parse_test

import (
	"math/rand"
	"slices"
	"strings"
	"testing"

	"lockstep/api"
	"lockstep/parse"
)

// cantWrite checks that something can't be written.
func cantWrite[T any](t *testing.T, print func(T) (string, api.Errno), x T) {
	t.Helper()
	if s, why := print(x); s != "" || why != api.ErrArg {
		t.Errorf("%s: %q %v", short(show(x)), short(s), why)
	}
}

// writes checks that something can be written, and how.
func writes[T any](t *testing.T, print func(T) (string, api.Errno), x T, want string) {
	t.Helper()
	if s, why := print(x); s != want || why != api.OK {
		t.Errorf("%s: %q %v, not %q", short(show(x)), short(s), why, short(want))
	}
}

func badNames() []string {
	return []string{"", "\x00", "a\x00b", "\xff", "a\xc3", strings.Repeat("n", 33), strings.Repeat("é", 17), strings.Repeat("x", 1<<20)}
}

// badParams are no words, so no parameter can say them.
func badParams() []string {
	return append(badNames(), "A", "p q", "é", "1", "1a", `"a"`, "a\n", ":p", "-")
}

func badValues() []api.Value {
	return []api.Value{num(-1), num(-1 << 63), dec(-1), dec(-1 << 63), text("\x00"), text("a\x00"), text("\xff"), text(strings.Repeat("x", 4097)), truth(2), truth(-1), {Type: 5}, {Type: -1}, {Type: 1 << 40}}
}

// P9.2: expressions that can't be written: each way, by itself and within another one.
func TestExpressionsNotWritten(t *testing.T) {
	var l []api.Expr
	for _, op := range []string{"", "nonsense", "AND", "Not", "is not null", "not null", "not like", "is", "mod", "==", "!=", "<=>", "(", "a", "neg ", "count", "select"} {
		for n := range 4 {
			l = append(l, api.Expr{Op: op, Name: "a", Type: 1, Parts: slices.Repeat([]api.Expr{col(0, "a")}, n)})
		}
	}
	for op, n := range ops() {
		for _, m := range []int{0, 1, 2, 3, 4, 65, 66, 300} {
			if m == n || op == "in" && m >= 2 && m <= 65 {
				continue
			}
			e := made(op, -1, api.Expr{})
			e.Parts = slices.Repeat([]api.Expr{col(0, "a")}, m)
			l = append(l, e)
		}
	}
	for _, name := range badNames() {
		l = append(l, col(0, name), of(0, "t", name))
		if name != "" {
			l = append(l, of(0, name, "a"))
		}
	}
	for _, name := range badParams() {
		l = append(l, par(0, name))
	}
	for _, v := range badValues() {
		l = append(l, val(0, v))
	}
	for _, typ := range []int{0, 5, -1, 1 << 40} {
		l = append(l, api.Expr{Op: "cast", Type: typ, Parts: []api.Expr{col(0, "a")}})
	}
	for _, e := range l {
		cantWrite(t, parse.PrintExpr, e)
		for _, op := range opNames() {
			for place := range ops()[op] {
				cantWrite(t, parse.PrintExpr, made(op, place, e))
			}
		}
	}
}

// P9.2: the edges of what can be written: names, values, and the most Parts.
func TestEdgesWritten(t *testing.T) {
	long := strings.Repeat("n", 32)
	for want, e := range map[string]api.Expr{
		"9223372036854775807": val(0, num(1<<63-1)), "0": val(0, num(0)), "0.0": val(0, dec(0)), "922337203685477.5807": val(0, dec(1<<63-1)), "''": val(0, text("")), "'" + strings.Repeat("''", 4096) + "'": val(0, text(strings.Repeat("'", 4096))), "'\x01\ufffd'": val(0, text("\x01\ufffd")), "NULL": val(0, api.Value{}), "TRUE": val(0, truth(1)), "FALSE": val(0, truth(0)),
		long: col(0, long), long + "." + long: of(0, long, long), `"` + strings.Repeat("é", 16) + `"`: col(0, strings.Repeat("é", 16)), `"\ufffd"`: col(0, "\ufffd"), ":" + long: par(0, long), ":_": par(0, "_"), ":null": par(0, "null"), `"a` + "\n" + `b"`: col(0, "a\nb"),
		"a IN (" + row(64, "a", ", ") + ")": op(0, "in", slices.Repeat([]api.Expr{col(0, "a")}, 65)...), "a IN (b)": op(0, "in", col(0, "a"), col(0, "b")),
	} {
		want = strings.ReplaceAll(want, `\ufffd`, "\ufffd")
		writes(t, parse.PrintExpr, e, want)
	}
}

// tall is an expression that has n more of an Op around it.
func tall(n int, e api.Expr, around func(e api.Expr) api.Expr) api.Expr {
	for range n {
		e = around(e)
	}
	return e
}

// long is a chain of n expressions, n odd.
func long(n int, sign string) api.Expr {
	return tall(n/2, col(0, "a"), func(e api.Expr) api.Expr { return op(0, sign, e, col(0, "a")) })
}

// P9.2: of expressions 256 can be written and 257 can't, in an expression, a statement, a condition of ABORT; 16 in one another, and not 17.
func TestTooGreatNotWritten(t *testing.T) {
	for _, sign := range []string{"or", "and", "+", "*"} {
		most := op(0, "not", long(255, sign))
		if sign == "+" || sign == "*" {
			most = op(0, "neg", long(255, sign))
		}
		if s, why := parse.PrintExpr(most); why != api.OK {
			t.Error(s, why)
		}
		cantWrite(t, parse.PrintExpr, long(257, sign))
		cantWrite(t, parse.PrintExpr, op(0, "length", most))
		where := api.Stmt{Kind: api.Update, Table: "t", Sets: []api.Set{{Name: "a", Expr: col(0, "b")}}, Where: long(255, sign)}
		if _, why := parse.PrintStmt(where); why != api.OK {
			t.Error(why)
		}
		where.Where = op(0, "length", where.Where)
		cantWrite(t, parse.PrintStmt, where)
		bounded := item(0, api.Item{Expr: long(255, sign)})
		bounded.Limit = par(0, "n")
		if _, why := parse.PrintStmt(bounded); why != api.OK {
			t.Error(why)
		}
		bounded.Items = append(bounded.Items, api.Item{Expr: col(0, "a"), Name: "a"})
		cantWrite(t, parse.PrintStmt, bounded)
		bounded.Limit = api.Expr{}
		if _, why := parse.PrintStmt(bounded); why != api.OK {
			t.Error(why)
		}
	}
	abort := func(e api.Expr) api.Step { return api.Step{Kind: api.Abort, Cond: e} }
	full := abort(op(0, "not", long(255, "or")))
	if _, why := parse.PrintSchema(procedure(full, full, full)); why != api.OK {
		t.Error(why)
	}
	cantWrite(t, parse.PrintSchema, procedure(full, abort(long(257, "or"))))
	// Of tests with a NOT in them both count.
	for name, put := range map[string]func(e api.Expr) api.Expr{
		"is null": func(e api.Expr) api.Expr { return op(0, "not", op(0, "is null", op(0, "neg", e))) },
		"like":    func(e api.Expr) api.Expr { return op(0, "not", op(0, "like", e, col(0, "a"))) },
		"in":      func(e api.Expr) api.Expr { return op(0, "not", op(0, "in", e, col(0, "a"))) },
	} {
		if s, why := parse.PrintExpr(put(long(253, "+"))); why != api.OK {
			t.Error(name, s, why)
		}
		cantWrite(t, parse.PrintExpr, put(op(0, "length", long(253, "+"))))
	}
}

// procedure is declarations of one that has these steps.
func procedure(steps ...api.Step) []api.Decl {
	return []api.Decl{{Proc: api.Proc{Name: "f", Steps: steps}}}
}

// P9.2: what lies in 16 things can be written, in 17 not.
func TestTooDeepNotWritten(t *testing.T) {
	arounds := map[string]func(e api.Expr) api.Expr{
		"not":          func(e api.Expr) api.Expr { return op(0, "not", e) },
		"minus":        func(e api.Expr) api.Expr { return op(0, "neg", e) },
		"when":         func(e api.Expr) api.Expr { return op(0, "case", e, col(0, "a"), col(0, "b")) },
		"then":         func(e api.Expr) api.Expr { return op(0, "case", col(0, "a"), e, col(0, "b")) },
		"else":         func(e api.Expr) api.Expr { return op(0, "case", col(0, "a"), col(0, "b"), e) },
		"length":       func(e api.Expr) api.Expr { return op(0, "length", e) },
		"cast":         func(e api.Expr) api.Expr { return api.Expr{Op: "cast", Type: api.Text, Parts: []api.Expr{e}} },
		"substr":       func(e api.Expr) api.Expr { return op(0, "substr", col(0, "a"), e, col(0, "b")) },
		"coalesce":     func(e api.Expr) api.Expr { return op(0, "coalesce", col(0, "a"), e) },
		"in":           func(e api.Expr) api.Expr { return op(0, "in", col(0, "a"), e) },
		"not in":       func(e api.Expr) api.Expr { return op(0, "not", op(0, "in", col(0, "a"), e)) },
		"right minus":  func(e api.Expr) api.Expr { return op(0, "-", col(0, "a"), op(0, "-", col(0, "b"), e)) },
		"right or":     func(e api.Expr) api.Expr { return op(0, "or", col(0, "a"), op(0, "or", col(0, "b"), e)) },
		"null in test": func(e api.Expr) api.Expr { return op(0, "is null", op(0, "not", op(0, "is null", e))) },
	}
	two := map[string]bool{"right minus": true, "right or": true, "null in test": true} // of each two brackets come, but of the outermost
	for name, around := range arounds {
		fine, more := 16, 17
		if two[name] {
			fine, more = 8, 9
		}
		e := tall(fine, col(0, "a"), around)
		s, why := parse.PrintExpr(e)
		if again, _, _ := parse.Expr(s); why != api.OK || unplaced(again) != unplaced(e) {
			t.Errorf("%d %s: %s %v", fine, name, s, why)
		}
		cantWrite(t, parse.PrintExpr, tall(more, col(0, "a"), around))
		cantWrite(t, parse.PrintExpr, tall(70000, col(0, "a"), around))
	}
	for _, x := range []struct {
		most int
		put  func(e api.Expr) api.Stmt
	}{
		{16, func(e api.Expr) api.Stmt { return api.Stmt{Kind: api.Delete, Table: "t", Where: e} }},
		{16, func(e api.Expr) api.Stmt { return item(0, api.Item{Expr: e}) }},
		{15, func(e api.Expr) api.Stmt { return item(0, api.Item{Agg: "sum", Expr: e, Name: "sum"}) }},
		{15, func(e api.Expr) api.Stmt {
			return api.Stmt{Kind: api.Insert, Table: "t", Cols: []string{"a"}, Values: []api.Expr{e}}
		}},
	} {
		if s, why := parse.PrintStmt(x.put(tall(x.most, col(0, "a"), arounds["length"]))); why != api.OK {
			t.Error(s, why)
		}
		cantWrite(t, parse.PrintStmt, x.put(tall(x.most+1, col(0, "a"), arounds["length"])))
	}
}

// Ends: expressions whose Parts are shared, so that there are more than could ever be gone through, are refused all the same.
func TestEndlessNotWritten(t *testing.T) {
	for _, sign := range []string{"or", "-", "=", "coalesce", "like", "in"} {
		e := tall(5000, col(0, "a"), func(e api.Expr) api.Expr { return op(0, sign, e, e) })
		_, one := parse.PrintExpr(e)
		_, two := parse.PrintStmt(api.Stmt{Kind: api.Delete, Table: "t", Where: e})
		_, three := parse.PrintSchema(procedure(api.Step{Kind: api.Abort, Cond: e}))
		if one != api.ErrArg || two != api.ErrArg || three != api.ErrArg {
			t.Error(sign, one, two, three)
		}
	}
}

// changed is a statement that is read, changed.
func changed(t *testing.T, s string, change func(x *api.Stmt)) api.Stmt {
	t.Helper()
	x, at, why := parse.Stmt(s)
	if why != api.OK {
		t.Fatal(s, at, why)
	}
	change(&x)
	return x
}

// P9.2: statements that can't be written.
func TestStatementsNotWritten(t *testing.T) {
	cantWrite(t, parse.PrintStmt, api.Stmt{})
	whole := "select a, count(*), sum(b) as s from t join u on c where d group by e having f order by g limit 1"
	insert, update, remove := "insert into t (a) values (1)", "update t set a = 1 where b", "delete from t where a"
	bad := []api.Expr{{Op: "nonsense"}, op(0, "not"), par(0, "A"), val(0, num(-1)), op(0, "+", col(0, "a"), col(0, ""))}
	for _, s := range []string{whole, insert, update, remove} {
		for _, kind := range []int{0, 5, -1, 1 << 40} {
			cantWrite(t, parse.PrintStmt, changed(t, s, func(x *api.Stmt) { x.Kind = kind }))
		}
	}
	for _, name := range badNames() {
		for s, changes := range map[string][]func(x *api.Stmt){
			whole:  {func(x *api.Stmt) { x.From[0].Table = name }, func(x *api.Stmt) { x.From[0].As = name }, func(x *api.Stmt) { x.From[1].Table = name }, func(x *api.Stmt) { x.From[1].As = name }, func(x *api.Stmt) { x.From[0].Table, x.From[0].As = name, name }, func(x *api.Stmt) { x.Items[0].Name = name }, func(x *api.Stmt) { x.Items[1].Name = name }, func(x *api.Stmt) { x.Items[2].Name = name }, func(x *api.Stmt) { x.Items[0].Expr.Name = name }, func(x *api.Stmt) { x.Order[0].Name = name }},
			insert: {func(x *api.Stmt) { x.Table = name }, func(x *api.Stmt) { x.Cols[0] = name }, func(x *api.Stmt) { x.Cols = []string{"a", name} }},
			update: {func(x *api.Stmt) { x.Table = name }, func(x *api.Stmt) { x.Sets[0].Name = name }},
			remove: {func(x *api.Stmt) { x.Table = name }},
		} {
			for _, change := range changes {
				cantWrite(t, parse.PrintStmt, changed(t, s, change))
			}
		}
		if name != "" {
			cantWrite(t, parse.PrintStmt, changed(t, "select 1 from t", func(x *api.Stmt) { x.Items[0].Name = name }))
		}
	}
	for _, e := range bad {
		for s, changes := range map[string][]func(x *api.Stmt){
			whole:  {func(x *api.Stmt) { x.Items[0].Expr = e }, func(x *api.Stmt) { x.Items[2].Expr = e }, func(x *api.Stmt) { x.From[1].On = e }, func(x *api.Stmt) { x.Where = e }, func(x *api.Stmt) { x.Group[0] = e }, func(x *api.Stmt) { x.Having = e }, func(x *api.Stmt) { x.Limit = e }},
			insert: {func(x *api.Stmt) { x.Values[0] = e }}, update: {func(x *api.Stmt) { x.Sets[0].Expr = e }, func(x *api.Stmt) { x.Where = e }}, remove: {func(x *api.Stmt) { x.Where = e }},
		} {
			for _, change := range changes {
				cantWrite(t, parse.PrintStmt, changed(t, s, change))
			}
		}
	}
	none := api.Expr{Name: "a", Parts: []api.Expr{col(0, "a")}}
	for s, changes := range map[string][]func(x *api.Stmt){
		whole: {
			func(x *api.Stmt) { x.Items = nil }, func(x *api.Stmt) { x.From = nil }, func(x *api.Stmt) { x.Items[0].Expr = none }, func(x *api.Stmt) { x.Items[2].Expr = none }, func(x *api.Stmt) { x.From[1].On = none }, func(x *api.Stmt) { x.Group[0] = none },
			func(x *api.Stmt) { x.Items[1].Agg = "sum" }, func(x *api.Stmt) { x.Items[1].Agg = "nonsense" }, func(x *api.Stmt) { x.Items[2].Agg = "nonsense" }, func(x *api.Stmt) { x.Items[2].Agg = "SUM" }, func(x *api.Stmt) { x.Items[2].Agg = "length" }, func(x *api.Stmt) { x.Items[2].Agg = "nonsense"; x.Items[2].Star = true },
			func(x *api.Stmt) { x.Limit = val(0, dec(1)) }, func(x *api.Stmt) { x.Limit = val(0, text("1")) }, func(x *api.Stmt) { x.Limit = val(0, api.Value{}) }, func(x *api.Stmt) { x.Limit = val(0, truth(1)) }, func(x *api.Stmt) { x.Limit = col(0, "a") }, func(x *api.Stmt) { x.Limit = op(0, "neg", val(0, num(1))) }, func(x *api.Stmt) { x.Limit.Parts = []api.Expr{col(0, "a")} },
			func(x *api.Stmt) { x.Items = slices.Repeat(x.Items[:1], 17) }, func(x *api.Stmt) { x.From = slices.Repeat(x.From[1:], 5) }, func(x *api.Stmt) { x.Group = slices.Repeat(x.Group, 17) }, func(x *api.Stmt) { x.Order = slices.Repeat(x.Order, 17) }, func(x *api.Stmt) { x.Order = slices.Repeat(x.Order, 1<<20) },
		},
		insert: {func(x *api.Stmt) { x.Cols = nil }, func(x *api.Stmt) { x.Values = nil }, func(x *api.Stmt) { x.Cols = slices.Repeat(x.Cols, 17) }, func(x *api.Stmt) { x.Values = slices.Repeat(x.Values, 17) }, func(x *api.Stmt) { x.Values[0] = none }},
		update: {func(x *api.Stmt) { x.Sets = nil }, func(x *api.Stmt) { x.Sets = slices.Repeat(x.Sets, 17) }, func(x *api.Stmt) { x.Sets[0].Expr = none }},
	} {
		for i, change := range changes {
			x := changed(t, s, change)
			if got, why := parse.PrintStmt(x); got != "" || why != api.ErrArg {
				t.Errorf("%s, change %d: %q %v", s, i, got, why)
			}
		}
	}
}

// P9.2: lists at their greatest lengths are written.
func TestLongStatementsWritten(t *testing.T) {
	for s, change := range map[string]func(x *api.Stmt){
		"select a from t join u on b group by c order by d": func(x *api.Stmt) {
			x.Items, x.From, x.Group, x.Order = slices.Repeat(x.Items, 16), append(x.From, x.From[1], x.From[1]), slices.Repeat(x.Group, 16), slices.Repeat(x.Order, 16)
		},
		"insert into t (a) values (1)": func(x *api.Stmt) { x.Cols, x.Values = slices.Repeat(x.Cols, 16), slices.Repeat(x.Values, 16) },
		"update t set a = 1":           func(x *api.Stmt) { x.Sets = slices.Repeat(x.Sets, 16) },
	} {
		x := changed(t, s, change)
		got, why := parse.PrintStmt(x)
		if again, _, _ := parse.Stmt(got); why != api.OK || unplaced(again) != unplaced(x) {
			t.Errorf("%s: %s %v", s, got, why)
		}
	}
}

// declared is declarations that are read, the first one changed.
func declared(t *testing.T, s string, change func(d *api.Decl)) []api.Decl {
	t.Helper()
	l, at, why := parse.Schema(s)
	if why != api.OK {
		t.Fatal(s, at, why)
	}
	change(&l[0])
	return l
}

// P9.2: declarations that can't be written.
func TestDeclarationsNotWritten(t *testing.T) {
	table := "create table t (a bigint, b varchar(3), primary key (a), unique u (a, b), index i (b)) partition by a limit 9;"
	bare := "create table t (a bigint, index i (a));"
	proc := "create procedure f (p varchar(3)) partition by p as begin let n = select a from t; abort 'x' if :n; delete from t; end;"
	cantWrite(t, parse.PrintSchema, []api.Decl{{}})
	for _, name := range badNames() {
		for s, changes := range map[string][]func(d *api.Decl){
			table: {func(d *api.Decl) { d.Table.Name = name }, func(d *api.Decl) { d.Table.Cols[0].Name = name }, func(d *api.Decl) { d.Table.Keys[0].Name = name }, func(d *api.Decl) { d.Table.Keys[1].Name = name }, func(d *api.Decl) { d.Table.Keys[2].Name = name }, func(d *api.Decl) { d.Cols[0][0] = name }, func(d *api.Decl) { d.Cols[1][1] = name }, func(d *api.Decl) { d.Cols[2][0] = name }},
			proc:  {func(d *api.Decl) { d.Proc.Name = name }, func(d *api.Decl) { d.Proc.Params[0].Name = name }, func(d *api.Decl) { d.Proc.Steps[0].Name = name }, func(d *api.Decl) { d.Proc.Steps[2].Stmt.Table = name }},
		} {
			for _, change := range changes {
				cantWrite(t, parse.PrintSchema, declared(t, s, change))
			}
		}
		if name != "" {
			cantWrite(t, parse.PrintSchema, declared(t, table, func(d *api.Decl) { d.Part = name }))
			cantWrite(t, parse.PrintSchema, declared(t, proc, func(d *api.Decl) { d.Proc.Part = name }))
		}
	}
	for _, n := range []int{0, -1, 4097, -1 << 63, 1<<63 - 1} {
		cantWrite(t, parse.PrintSchema, declared(t, table, func(d *api.Decl) { d.Table.Cols[1].Most = n }))
		cantWrite(t, parse.PrintSchema, declared(t, proc, func(d *api.Decl) { d.Proc.Params[0].Most = n }))
		if n != 0 {
			cantWrite(t, parse.PrintSchema, declared(t, table, func(d *api.Decl) { d.Table.Most = n }))
			cantWrite(t, parse.PrintSchema, declared(t, proc, func(d *api.Decl) { d.Proc.Steps[0].Kind = n }))
			cantWrite(t, parse.PrintSchema, declared(t, proc, func(d *api.Decl) { d.Proc.Params[0].Type = n }))
		}
		cantWrite(t, parse.PrintSchema, declared(t, table, func(d *api.Decl) { d.Table.Cols[0].Type = n }))
	}
	for _, s := range []string{"\x00", "\xff", strings.Repeat("x", 4097)} {
		cantWrite(t, parse.PrintSchema, declared(t, proc, func(d *api.Decl) { d.Proc.Steps[1].Text = s }))
	}
	for s, changes := range map[string][]func(d *api.Decl){
		table: {
			func(d *api.Decl) { d.Table.Cols = nil }, func(d *api.Decl) { d.Table.Cols = slices.Repeat(d.Table.Cols, 9)[:17] }, func(d *api.Decl) { d.Table.Keys = nil }, func(d *api.Decl) { d.Cols = nil }, func(d *api.Decl) { d.Table.Keys, d.Cols = nil, nil }, func(d *api.Decl) { d.Cols = d.Cols[:2] }, func(d *api.Decl) { d.Table.Keys = d.Table.Keys[:2] },
			func(d *api.Decl) { d.Cols[0] = nil }, func(d *api.Decl) { d.Cols[1] = nil }, func(d *api.Decl) { d.Cols[0] = slices.Repeat(d.Cols[0], 5) }, func(d *api.Decl) { d.Cols[2] = slices.Repeat(d.Cols[2], 5) }, func(d *api.Decl) { d.Table.Keys[0].Unique = false }, func(d *api.Decl) { d.Table.Keys[0].Name = "p" }, func(d *api.Decl) { d.Table.Keys[0].Name = "Primary" },
			func(d *api.Decl) { d.Table.Keys[0] = api.Key{} }, func(d *api.Decl) { d.Table.Keys[0] = api.Key{}; d.Cols[0] = []string{"", ""} },
			func(d *api.Decl) {
				d.Table.Keys, d.Cols = append(d.Table.Keys, slices.Repeat(d.Table.Keys[1:2], 14)...), append(d.Cols, slices.Repeat(d.Cols[1:2], 14)...)
			},
			func(d *api.Decl) { d.Table.Cols[1].Type = 5 },
		},
		bare: {
			func(d *api.Decl) { d.Table.Keys[0].Unique = true }, func(d *api.Decl) { d.Cols[0] = []string{"a"} }, func(d *api.Decl) { d.Table.Keys, d.Cols = d.Table.Keys[1:], d.Cols[1:] },
			func(d *api.Decl) {
				d.Table.Keys, d.Cols = append(d.Table.Keys, slices.Repeat(d.Table.Keys[1:], 16)...), append(d.Cols, slices.Repeat(d.Cols[1:], 16)...)
			},
		},
		proc: {
			func(d *api.Decl) { d.Proc.Params = slices.Repeat(d.Proc.Params, 17) }, func(d *api.Decl) { d.Proc.Params[0].NotNull = true }, func(d *api.Decl) { d.Proc.Steps = nil }, func(d *api.Decl) { d.Proc.Steps = slices.Repeat(d.Proc.Steps, 11) },
			func(d *api.Decl) { d.Proc.Steps[0].Stmt = d.Proc.Steps[2].Stmt }, func(d *api.Decl) { d.Proc.Steps[0].Stmt = api.Stmt{} }, func(d *api.Decl) { d.Proc.Steps[1].Cond = api.Expr{} }, func(d *api.Decl) { d.Proc.Steps[1].Cond = col(0, "") }, func(d *api.Decl) { d.Proc.Steps[2].Stmt.Kind = 0 }, func(d *api.Decl) { d.Proc.Steps[0].Kind = 0 }, func(d *api.Decl) { d.Proc.Steps[0].Kind = 4 }, func(d *api.Decl) { d.Proc.Steps[0].Stmt.Items = nil },
		},
	} {
		for i, change := range changes {
			if got, why := parse.PrintSchema(declared(t, s, change)); got != "" || why != api.ErrArg {
				t.Errorf("%s, change %d: %q %v", s, i, got, why)
			}
		}
	}
	good := declared(t, table, func(d *api.Decl) {})
	cantWrite(t, parse.PrintSchema, append(good, api.Decl{}))
	cantWrite(t, parse.PrintSchema, slices.Repeat(good, 257))
	if _, why := parse.PrintSchema(slices.Repeat(good, 256)); why != api.OK {
		t.Error(why)
	}
}

// P9.2: tables and procedures at the edges of what can be are written, and read again.
func TestEdgesOfDeclarations(t *testing.T) {
	table := "create table t (a bigint, b varchar(3), primary key (a), unique u (a));"
	bare := "create table t (a bigint, index i (a));"
	proc := "create procedure f (p bigint) as begin delete from t; end;"
	for s, changes := range map[string][]func(d *api.Decl){
		table: {
			func(d *api.Decl) { d.Table.Cols = slices.Repeat(d.Table.Cols, 8) }, func(d *api.Decl) { d.Cols[0] = slices.Repeat(d.Cols[0], 4) }, func(d *api.Decl) { d.Cols[1] = slices.Repeat(d.Cols[1], 4) }, func(d *api.Decl) { d.Table.Cols[1].Most = 1 }, func(d *api.Decl) { d.Table.Cols[1].Most = 4096 }, func(d *api.Decl) { d.Table.Most = 1 }, func(d *api.Decl) { d.Table.Most = 4096 }, func(d *api.Decl) { d.Table.Keys[1].Name = "primary" }, func(d *api.Decl) { d.Part = "nowhere" }, func(d *api.Decl) { d.Cols[0][0] = "nowhere" },
			func(d *api.Decl) {
				d.Table.Keys, d.Cols = append(d.Table.Keys, slices.Repeat(d.Table.Keys[1:], 14)...), append(d.Cols, slices.Repeat(d.Cols[1:], 14)...)
			},
			func(d *api.Decl) { d.Table.Keys[0], d.Cols[0] = api.Key{}, []string{} },
		},
		bare: {
			func(d *api.Decl) { d.Table.Keys, d.Cols = d.Table.Keys[:1], d.Cols[:1] },
			func(d *api.Decl) {
				d.Table.Keys, d.Cols = append(d.Table.Keys, slices.Repeat(d.Table.Keys[1:], 15)...), append(d.Cols, slices.Repeat(d.Cols[1:], 15)...)
			},
		},
		proc: {func(d *api.Decl) { d.Proc.Params = slices.Repeat(d.Proc.Params, 16) }, func(d *api.Decl) { d.Proc.Params = nil }, func(d *api.Decl) { d.Proc.Steps = slices.Repeat(d.Proc.Steps, 32) }, func(d *api.Decl) { d.Proc.Part = "nowhere" }},
	} {
		for i, change := range changes {
			l := declared(t, s, change)
			got, why := parse.PrintSchema(l)
			if again, _, _ := parse.Schema(got); why != api.OK || unplaced(again) != unplaced(l) {
				t.Errorf("%s, change %d: %s %v", s, i, got, why)
			}
		}
	}
}

// loosen sets all that plays no part in an expression to anything.
func loosen(r *rand.Rand, e *api.Expr) {
	e.At = []int{0, -5, 1 << 40}[r.Intn(3)]
	junk := api.Value{Type: r.Intn(9) - 2, Int: -7, Text: "\xff\x00"}
	switch e.Op {
	case "":
		*e = api.Expr{Parts: []api.Expr{{Op: "nonsense"}}}
	case "value":
		switch e.Value.Type {
		case api.Null:
			e.Value.Int, e.Value.Text = -3, "\xff"
		case api.Text:
			e.Value.Int = -3
		default:
			e.Value.Text = "\xff"
		}
	default:
		e.Value = junk
	}
	if e.Op != "column" {
		e.Of = "\xff"
		if e.Op != "param" {
			e.Name = "\x00"
		}
	}
	if e.Op != "cast" {
		e.Type = -1 + r.Intn(9)
	}
	if e.Op != "" {
		for i := range e.Parts {
			loosen(r, &e.Parts[i])
		}
	}
}

func loosenStmt(r *rand.Rand, x *api.Stmt) {
	x.At = -1
	bad := api.Stmt{Distinct: true, Items: make([]api.Item, 99), From: make([]api.From, 99), Where: api.Expr{Op: "nonsense"}, Group: make([]api.Expr, 99), Having: api.Expr{Op: "nonsense"}, Order: make([]api.Order, 99), Limit: api.Expr{Op: "nonsense"}, Table: "\xff", Cols: make([]string, 99), Values: make([]api.Expr, 99), Sets: make([]api.Set, 99)}
	was := *x
	if x.Kind != api.Insert {
		loosen(r, &was.Where)
	}
	*x = bad
	x.Kind = was.Kind
	switch x.Kind {
	case api.Select:
		x.Distinct, x.Items, x.From, x.Where, x.Group, x.Having, x.Order, x.Limit = was.Distinct, was.Items, was.From, was.Where, was.Group, was.Having, was.Order, was.Limit
		loosen(r, &x.Having)
		loosen(r, &x.Limit)
		loosenLists(r, x)
	case api.Insert:
		x.Table, x.Cols, x.Values = was.Table, was.Cols, was.Values
		for i := range x.Values {
			loosen(r, &x.Values[i])
		}
	case api.Update:
		x.Table, x.Sets, x.Where = was.Table, was.Sets, was.Where
		for i := range x.Sets {
			x.Sets[i].At = -9
			loosen(r, &x.Sets[i].Expr)
		}
	case api.Delete:
		x.Table, x.Where = was.Table, was.Where
	}
}

func loosenLists(r *rand.Rand, x *api.Stmt) {
	for i := range x.Items {
		m := &x.Items[i]
		m.At = 1 << 50
		switch {
		case m.Agg == "":
			m.Star, m.Distinct = true, true
			loosen(r, &m.Expr)
		case m.Star:
			m.Distinct, m.Expr = true, api.Expr{Op: "nonsense"}
		default:
			loosen(r, &m.Expr)
		}
	}
	for i := range x.From {
		x.From[i].At = -2
		if i == 0 {
			x.From[i].On = api.Expr{Op: "nonsense", Parts: make([]api.Expr, 500)}
		} else {
			loosen(r, &x.From[i].On)
		}
	}
	for i := range x.Group {
		loosen(r, &x.Group[i])
	}
	for i := range x.Order {
		x.Order[i].At = -3
	}
}

func loosenDecl(r *rand.Rand, d *api.Decl) {
	d.At = -4
	if d.Table.Name == "" {
		d.Table = api.Table{Cols: make([]api.Column, 99), Keys: make([]api.Key, 99), Part: 77, Most: -9}
		d.Cols, d.Part = make([][]string, 3), "\xff"
		d.Proc.At = 1 << 33
		loosenColumns(d.Proc.Params)
		for i := range d.Proc.Steps {
			loosenStep(r, &d.Proc.Steps[i])
		}
		return
	}
	d.Proc = api.Proc{Name: "\xff", Params: make([]api.Column, 99), Part: "\x00", Steps: make([]api.Step, 99)}
	d.Table.Part = []int{-9, 3, 1 << 40}[r.Intn(3)]
	loosenColumns(d.Table.Cols)
	for i := range d.Table.Keys {
		d.Table.Keys[i].Cols = []int{-1, 99, 99, 1 << 40, 0, 0}
	}
}

func loosenColumns(l []api.Column) {
	for i := range l {
		if l[i].Type != api.Text {
			l[i].Most = []int{-1, 5, 1 << 40}[i%3]
		}
	}
}

func loosenStep(r *rand.Rand, s *api.Step) {
	s.At = -6
	if s.Kind != api.Let {
		s.Name = "\xff"
	}
	if s.Kind == api.Abort {
		s.Stmt = api.Stmt{Kind: 77}
		loosen(r, &s.Cond)
		return
	}
	s.Cond, s.Text = api.Expr{Op: "nonsense"}, "\x00"
	loosenStmt(r, &s.Stmt)
}

// P9.2: what plays no part, and places, may be anything.
func TestNoPart(t *testing.T) {
	r := rand.New(rand.NewSource(93))
	expressions(800, func(s string, e api.Expr, wrong fault) {
		if want, why := parse.PrintExpr(e); why == api.OK {
			loosen(r, &e)
			writes(t, parse.PrintExpr, e, want)
		}
	})
	statements(2000, func(s string, x api.Stmt, wrong fault) {
		if want, why := parse.PrintStmt(x); why == api.OK {
			loosenStmt(r, &x)
			writes(t, parse.PrintStmt, x, want)
		}
	})
	schemas(800, func(s string, l []api.Decl, wrong fault) {
		if want, why := parse.PrintSchema(l); why == api.OK {
			for i := range l {
				loosenDecl(r, &l[i])
			}
			writes(t, parse.PrintSchema, l, want)
		}
	})
}
