package catalog_test

import (
	"slices"
	"testing"

	"lockstep/api"
	"lockstep/catalog"
	"lockstep/expr"
	"lockstep/parse"
	"lockstep/table"
)

// schemas goes through texts of declarations in which nothing is wrong, and some in which something is.
func schemas(t *testing.T, n int, tell func(l []api.Decl, c *catalog.Catalog)) {
	t.Helper()
	good := 0
	for _, s := range []string{
		"", tables, calls,
		around("LET n = SELECT COUNT(*) FROM t WHERE a = :p; ABORT 'no' IF :n = 0; UPDATE t SET b = :r, d = :n WHERE a = :p; INSERT INTO t (a, f) VALUES (:n + :p, :s);"),
		around("SELECT DISTINCT t.a, COUNT(*), COUNT(DISTINCT b) AS n, 1.5, 'it''s', NULL FROM t JOIN u AS x ON t.a = x.a AND x.h WHERE b LIKE '%' OR NOT (b IN ('x', 'y') OR d IS NULL) GROUP BY t.a, SUBSTR(b, 1, 2) HAVING n > 1 ORDER BY n DESC, a LIMIT :p;"),
		around("LET x = SELECT MAX(CASE WHEN f THEN -d ELSE CAST(b AS DECIMAL) END) FROM t; DELETE FROM u WHERE g = :x - (1 - 2) AND COALESCE(e, '') || 'x' <> '';"),
		"CREATE TABLE \"A b\" (\"é\" VARCHAR(4096), \"select\" BOOLEAN NOT NULL, UNIQUE \"k\" (\"select\", \"é\"), PRIMARY KEY (\"é\")) PARTITION BY \"é\" LIMIT 9; CREATE PROCEDURE \"A b\" (\"P\" BIGINT) PARTITION BY \"P\" AS BEGIN LET \"n n\" = SELECT \"x y\".\"é\" FROM \"A b\" AS \"x y\"; END;",
	} {
		tell(schema(t, s), made(t, s))
	}
	for i := range n {
		l := schema(t, newMaker(int64(i)+1<<30).schema())
		c, _, _ := catalog.New(l)
		if c != nil {
			good++
		}
		tell(l, c)
	}
	if good < n/4 || n-good < n/4 {
		t.Error("too few of a kind:", good, n)
	}
}

// P11.6: every statement of every procedure is OK by Check beside the parameters and the Lets ahead, each of the type that Answer tells; every condition is one beside these.
func TestSound(t *testing.T) {
	statements, lets := 0, 0
	schemas(t, 4000, func(_ []api.Decl, c *catalog.Catalog) {
		for _, p := range c.Procs() {
			var params []api.Col
			for _, x := range p.Params {
				params = append(params, col(x.Name, x.Type))
			}
			for i, s := range p.Steps {
				if s.Kind == api.Abort {
					if typ, at, why := expr.Type(s.Cond, api.Scope{Params: params}); typ != api.Bool && typ != 0 || why != api.OK {
						t.Errorf("%s, step %d: %d %d %v", p.Name, i, typ, at, why)
					}
					continue
				}
				statements++
				cols, why := c.Answer(s.Stmt, params)
				if at, also := c.Check(s.Stmt, params); at != 0 || why != api.OK || also != api.OK {
					t.Errorf("%s, step %d: %d %v %v", p.Name, i, at, also, why)
				}
				if s.Kind == api.Let {
					lets++
					if len(cols) != 1 || cols[0].Type == 0 {
						t.Fatal(p.Name, cols)
					}
					params = append(params, col(s.Name, cols[0].Type))
				}
			}
			if p.Part != "" && !slices.ContainsFunc(p.Params, func(x api.Column) bool { return x.Name == p.Part }) {
				t.Error(p.Name, p.Part)
			}
		}
	})
	if statements < 2000 || lets < 500 {
		t.Error("too few:", statements, lets)
	}
}

// told is all that two catalogs are held against each other by, but for places.
func told(c *catalog.Catalog) string { return unplaced(c.Tables()) + unplaced(c.Procs()) }

// P11.7: what was printed and read again is a catalog of the same.
func TestThereAndBack(t *testing.T) {
	schemas(t, 2000, func(l []api.Decl, c *catalog.Catalog) {
		s, why := parse.PrintSchema(l)
		again, _, also := parse.Schema(s)
		if why != api.OK || also != api.OK {
			t.Fatal(why, also)
		}
		d, _, _ := catalog.New(again)
		if (c == nil) != (d == nil) || told(c) != told(d) {
			t.Errorf("%s:\n%s\nnot\n%s", s, told(d), told(c))
		}
	})
}

// loose is the same declarations, with other things wherever these play no part.
func loose(l []api.Decl) []api.Decl {
	junk := api.Expr{Op: "and", Parts: []api.Expr{{Op: "zz"}}, Name: "zz", Type: 7, At: 98}
	none := junk
	none.Op = ""
	out := slices.Clone(l)
	for i := range out {
		d := &out[i]
		if d.Table.Name != "" {
			d.Proc = api.Proc{Name: "zz", Steps: make([]api.Step, 99)}
			d.Table.Part = 7
			d.Table.Cols = looseColumns(d.Table.Cols)
			d.Table.Keys = slices.Clone(d.Table.Keys)
			for k := range d.Table.Keys {
				d.Table.Keys[k].Cols = []int{-1, 99}
			}
			continue
		}
		d.Table, d.Cols, d.Part = api.Table{Cols: make([]api.Column, 9), Most: -1}, [][]string{{"zz"}}, "zz"
		d.Proc.Params = looseColumns(d.Proc.Params)
		d.Proc.Steps = slices.Clone(d.Proc.Steps)
		for k, s := range d.Proc.Steps {
			switch s.Kind {
			case api.Run:
				s.Name, s.Cond, s.Text, s.Stmt = "zz", junk, "\xff", looseStmt(s.Stmt, junk, none)
			case api.Let:
				s.Cond, s.Text, s.Stmt = junk, "\xff", looseStmt(s.Stmt, junk, none)
			case api.Abort:
				s.Name, s.Stmt, s.Cond = "", api.Stmt{Kind: 7, Where: junk}, looseExpr(s.Cond, none)
			}
			d.Proc.Steps[k] = s
		}
	}
	return out
}

func looseColumns(l []api.Column) []api.Column {
	l = slices.Clone(l)
	for i := range l {
		if l[i].Type != api.Text {
			l[i].Most = 7 - i
		}
	}
	return l
}

func looseStmt(x api.Stmt, junk, none api.Expr) api.Stmt {
	y := api.Stmt{Kind: x.Kind, Distinct: true, Items: []api.Item{{Expr: junk}}, From: []api.From{{On: junk}}, Where: junk, Group: []api.Expr{junk}, Having: junk, Order: []api.Order{{}}, Limit: junk, Table: "zz", Cols: []string{""}, Values: []api.Expr{junk}, Sets: []api.Set{{Expr: junk}}, At: x.At}
	switch x.Kind {
	case api.Select:
		y.Distinct, y.Order = x.Distinct, x.Order
		y.Where, y.Having, y.Limit = looseExpr(x.Where, none), looseExpr(x.Having, none), looseExpr(x.Limit, none)
		y.Items, y.From, y.Group = slices.Clone(x.Items), slices.Clone(x.From), slices.Clone(x.Group)
		for i := range y.Items {
			y.Items[i] = fillItem(y.Items[i], junk)
			if !x.Items[i].Star {
				y.Items[i].Expr = looseExpr(x.Items[i].Expr, none)
			}
		}
		for i := range y.From {
			y.From[i].On = looseExpr(y.From[i].On, junk)
		}
		for i := range y.Group {
			y.Group[i] = looseExpr(y.Group[i], none)
		}
	case api.Insert:
		y.Table, y.Cols, y.Values = x.Table, x.Cols, slices.Clone(x.Values)
		for i := range y.Values {
			y.Values[i] = looseExpr(y.Values[i], none)
		}
	case api.Update:
		y.Table, y.Sets, y.Where = x.Table, slices.Clone(x.Sets), looseExpr(x.Where, none)
		for i := range y.Sets {
			y.Sets[i].Expr = looseExpr(y.Sets[i].Expr, none)
		}
	case api.Delete:
		y.Table, y.Where = x.Table, looseExpr(x.Where, none)
	}
	return y
}

// looseExpr is the same expression; for none there is another one.
func looseExpr(e, none api.Expr) api.Expr {
	if e.Op == "" {
		return none
	}
	y := api.Expr{Op: e.Op, Value: api.Value{Type: 9, Int: 7, Text: "\xff"}, Name: "zz", Of: "zz", Type: 77, At: e.At}
	for _, p := range e.Parts {
		y.Parts = append(y.Parts, looseExpr(p, none))
	}
	switch e.Op {
	case "value":
		y.Value = e.Value
		if e.Value.Type == api.Text {
			y.Value.Int = 5
		} else {
			y.Value.Text = "\xff"
		}
		if e.Value.Type == api.Null {
			y.Value.Int = 5
		}
	case "column":
		y.Name, y.Of = e.Name, e.Of
	case "param":
		y.Name = e.Name
	case "cast":
		y.Type = e.Type
	}
	return y
}

// P11.7: so is a catalog of declarations with other things where they play no part, places and all; what it tells has nothing of these.
func TestOnlyWhatPlaysAPart(t *testing.T) {
	schemas(t, 2000, func(l []api.Decl, c *catalog.Catalog) {
		other := loose(l)
		one, why := parse.PrintSchema(l)
		two, also := parse.PrintSchema(other)
		if one != two || why != api.OK || also != api.OK {
			t.Fatalf("%v %v\n%s\n%s", why, also, one, two)
		}
		_, at, why := catalog.New(l)
		d, place, also := catalog.New(other)
		if (fault{at, why}) != (fault{place, also}) {
			t.Errorf("%s: %d %v, not %d %v", one, place, also, at, why)
		}
		if !alike(c.Tables(), d.Tables()) || !alike(c.Procs(), d.Procs()) {
			t.Errorf("%s:\n%v %v\nnot\n%v %v", one, d.Tables(), d.Procs(), c.Tables(), c.Procs())
		}
		for _, p := range d.Procs() {
			i := slices.IndexFunc(l, func(x api.Decl) bool { return x.Table.Name == "" && x.Proc.Name == p.Name })
			if !alike(p, l[i].Proc) {
				t.Errorf("%v, not %v", p, l[i].Proc)
			}
		}
	})
}

// P11.8: what is declared behind changes nothing in what is ahead: tables and procedures are the same, so are the answers and errors of statements over these, and errors.
func TestOneByOne(t *testing.T) {
	more := 0
	schemas(t, 1500, func(l []api.Decl, c *catalog.Catalog) {
		_, at, why := catalog.New(l)
		for k := range len(l) + 1 {
			b, place, also := catalog.New(l[:k])
			if b == nil {
				if c != nil || (fault{at, why}) != (fault{place, also}) {
					t.Errorf("%d %v, not %d %v", at, why, place, also)
				}
				continue
			}
			if c == nil {
				continue
			}
			for _, x := range b.Tables() {
				if y, why := c.Table(x.Name); !alike(x, y) || why != api.OK {
					t.Errorf("%v, not %v", y, x)
				}
			}
			for _, x := range b.Procs() {
				if y, why := c.Proc(x.Name); !alike(x, y) || why != api.OK {
					t.Errorf("%v, not %v", y, x)
				}
				args := make(api.Row, len(x.Params))
				one, why := b.Bind(x.Name, args)
				two, also := c.Bind(x.Name, args)
				if !slices.Equal(one, two) || why != also {
					t.Error(x.Name, one, two, why, also)
				}
			}
			if k < len(l) {
				more++
				sameOverAhead(t, b, c, int64(k))
			}
		}
	})
	if more < 500 {
		t.Error("too few:", more)
	}
}

// sameOverAhead holds statements over the tables of b in b and in c against each other.
func sameOverAhead(t *testing.T, b, c *catalog.Catalog, seed int64) {
	t.Helper()
	m := newMaker(seed)
	m.astray = 1 << 30
	for _, x := range b.Tables() {
		var cols []api.Col
		for _, y := range x.Cols {
			cols = append(cols, col(y.Name, y.Type))
		}
		m.known(x.Name, cols)
	}
	if len(m.order) == 0 {
		return
	}
	for range 5 {
		s := m.stmt()
		x := stmt(t, s)
		at, why := b.Check(x, nil)
		place, also := c.Check(x, nil)
		one, _ := b.Answer(x, nil)
		two, _ := c.Answer(x, nil)
		if at != place || why != also || !alike(one, two) {
			t.Errorf("%s: %d %v %v, not %d %v %v", s, place, also, two, at, why, one)
		}
		one, why = b.Scope(x)
		two, also = c.Scope(x)
		if why != also || !alike(one, two) {
			t.Errorf("%s: %v %v, not %v %v", s, also, two, why, one)
		}
	}
}

// P11.8: two catalogs know nothing of one another.
func TestTwoCatalogs(t *testing.T) {
	one := made(t, "CREATE TABLE t (a BIGINT, PRIMARY KEY (a)); CREATE PROCEDURE f () AS BEGIN DELETE FROM t; END;")
	was := told(one)
	two := made(t, "CREATE TABLE t (b BOOLEAN, PRIMARY KEY (b)); CREATE TABLE u (b BOOLEAN, PRIMARY KEY (b)); CREATE PROCEDURE f (p BIGINT) AS BEGIN DELETE FROM u; END;")
	if c, _, why := catalog.Load("CREATE TABLE t (a BIGINT);"); c != nil || why != api.ErrKey {
		t.Error(why)
	}
	if told(one) != was || len(two.Tables()) != 2 {
		t.Error(told(one), told(two))
	}
	checks(t, one, "SELECT a FROM t", api.OK)
	checks(t, two, "SELECT ^a FROM t", api.ErrName)
	checks(t, one, "SELECT b FROM ^u", api.ErrName)
	if _, why := one.Bind("f", nil); why != api.OK {
		t.Error(why)
	}
	if _, why := two.Bind("f", nil); why != api.ErrArgs {
		t.Error(why)
	}
}

// P1: every text, however it is bent, is refused with a place in it, or is a catalog, whose tables can stand.
func TestBentTexts(t *testing.T) {
	base := []string{tables, calls, around("LET n = SELECT COUNT(*) FROM t WHERE a = :p; ABORT 'no' IF :n = 0; UPDATE t SET b = :r WHERE a = :p;")}
	m := newMaker(5)
	for range 20000 {
		s := bent(m, pick(m, base...))
		c, at, why := catalog.Load(s)
		if (c == nil) == (why == api.OK) || at < 0 || at > len(s) || why == api.OK && at != 0 {
			t.Fatalf("%s: %v %d %v", s, c != nil, at, why)
		}
		for _, x := range c.Tables() {
			if why := table.Check(x); why != api.OK {
				t.Errorf("%v: %v", x, why)
			}
		}
	}
}

// bent is a text that was changed at some places.
func bent(m *maker, s string) string {
	b := []byte(s)
	for range 1 + m.Intn(3) {
		i, j := m.Intn(len(b)), m.Intn(len(b))
		switch m.Intn(4) {
		case 0:
			b[i] = b[j]
		case 1:
			b = slices.Delete(b, i, min(i+1+m.Intn(9), len(b)))
		case 2:
			b = slices.Insert(b, i, b[j:min(j+1+m.Intn(9), len(b))]...)
		case 3:
			b[i] = " abtup;,()'\"1.:="[m.Intn(16)]
		}
	}
	return string(b)
}
