package catalog_test

import (
	"fmt"
	"slices"
	"strings"
	"testing"

	"lockstep/api"
	"lockstep/catalog"
)

// P11.1: a procedure is what was declared.
func TestProcsAreMade(t *testing.T) {
	s := around("LET n = SELECT COUNT(*) FROM t WHERE a = :p; ABORT 'no' IF :n = 0; UPDATE t SET b = :r WHERE a = :p;") +
		"CREATE PROCEDURE f (p BIGINT) PARTITION BY p AS BEGIN INSERT INTO u (a, e) VALUES (:p, 'x'); END;"
	l := schema(t, s)
	c := made(t, s)
	for _, d := range l[2:] {
		if got, why := c.Proc(d.Proc.Name); !alike(got, d.Proc) || why != api.OK {
			t.Errorf("%v %v, not %v", got, why, d.Proc)
		}
	}
	if got := c.Procs(); !alike(got, []api.Proc{l[3].Proc, l[2].Proc}) || len(c.Tables()) != 2 {
		t.Error(got)
	}
}

// P11.1: each error of a procedure alone, at its place.
func TestWrongProcs(t *testing.T) {
	const ahead = tables + "CREATE PROCEDURE f () AS BEGIN DELETE FROM u; END;\n"
	for s, why := range map[string]api.Errno{
		"^CREATE PROCEDURE f () AS BEGIN DELETE FROM u; END;":                                                           api.ErrTable,
		"^CREATE PROCEDURE F (x BIGINT) AS BEGIN ABORT 'x' IF :x = 1; END;":                                             api.ErrTable,
		"CREATE PROCEDURE g () AS BEGIN DELETE FROM u; END; ^CREATE PROCEDURE g () AS BEGIN DELETE FROM u; END;":        api.ErrTable,
		"^CREATE PROCEDURE g (p BIGINT, p BIGINT) AS BEGIN DELETE FROM u; END;":                                         api.ErrTable,
		"^CREATE PROCEDURE g (p BIGINT, q BIGINT, \"p\" BOOLEAN) AS BEGIN DELETE FROM u; END;":                          api.ErrTable,
		"^CREATE PROCEDURE g () PARTITION BY p AS BEGIN DELETE FROM u; END;":                                            api.ErrPart,
		"^CREATE PROCEDURE g (p BIGINT) PARTITION BY a AS BEGIN DELETE FROM t WHERE a = :p; END;":                       api.ErrPart,
		"^CREATE PROCEDURE g (p BIGINT) PARTITION BY \"P\" AS BEGIN DELETE FROM t WHERE a = :p; END;":                   api.ErrPart,
		"^CREATE PROCEDURE g (p BIGINT) PARTITION BY n AS BEGIN LET n = SELECT a FROM t WHERE a = :p; END;":             api.ErrPart,
		"CREATE PROCEDURE g () AS BEGIN DELETE FROM t; ^DELETE FROM z; END;":                                            api.ErrName,
		"CREATE PROCEDURE g () AS BEGIN DELETE FROM t; DELETE FROM u WHERE ^b = ''; END;":                               api.ErrName,
		"CREATE PROCEDURE g () AS BEGIN ^DELETE FROM f; END;":                                                           api.ErrName,
		"CREATE PROCEDURE g () AS BEGIN ^DELETE FROM g; END; CREATE TABLE g (a BIGINT, PRIMARY KEY (a));":               api.ErrName,
		"CREATE PROCEDURE g () AS BEGIN SELECT a FROM ^w; END; CREATE TABLE w (a BIGINT, PRIMARY KEY (a));":             api.ErrName,
		"CREATE PROCEDURE g (p BIGINT) AS BEGIN ^LET p = SELECT a FROM t WHERE a = 1; END;":                             api.ErrTable,
		"CREATE PROCEDURE g () AS BEGIN LET p = SELECT a FROM t WHERE a = 1; ^LET \"p\" = SELECT b FROM t; END;":        api.ErrTable,
		"CREATE PROCEDURE g (p BIGINT) AS BEGIN LET q = SELECT a FROM t; DELETE FROM t; ^LET q = SELECT d FROM t; END;": api.ErrTable,
		"CREATE PROCEDURE g () AS BEGIN LET n = SELECT ^z FROM t; END;":                                                 api.ErrName,
		"CREATE PROCEDURE g () AS BEGIN LET n = SELECT a FROM t WHERE a = ^:n; END;":                                    api.ErrParam,
		"CREATE PROCEDURE g () AS BEGIN DELETE FROM t WHERE a = ^:n; LET n = SELECT a FROM t; END;":                     api.ErrParam,
		"CREATE PROCEDURE g () AS BEGIN ABORT 'x' IF ^:n = 1; LET n = SELECT a FROM t; END;":                            api.ErrParam,
		"CREATE PROCEDURE g () AS BEGIN ^LET n = SELECT a, b FROM t; END;":                                              api.ErrArg,
		"CREATE PROCEDURE g () AS BEGIN DELETE FROM t; ^LET n = SELECT a, COUNT(*), NULL FROM t GROUP BY a; END;":       api.ErrArg,
		"CREATE PROCEDURE g () AS BEGIN ^LET n = SELECT NULL FROM t; END;":                                              api.ErrArg,
		"CREATE PROCEDURE g () AS BEGIN ^LET n = SELECT SUM(NULL) FROM t; END;":                                         api.ErrArg,
		"CREATE PROCEDURE g () AS BEGIN ^LET n = SELECT COALESCE(NULL, NULL) FROM t; END;":                              api.ErrArg,
		"CREATE PROCEDURE g () AS BEGIN LET n = SELECT b FROM t; DELETE FROM t WHERE a ^= :n; END;":                     api.ErrType,
		"CREATE PROCEDURE g () AS BEGIN ABORT 'x' IF ^1; END;":                                                          api.ErrType,
		"CREATE PROCEDURE g () AS BEGIN ABORT 'x' IF ^'TRUE'; END;":                                                     api.ErrType,
		"CREATE PROCEDURE g () AS BEGIN ABORT 'x' IF 1.0 ^+ 2; END;":                                                    api.ErrType,
		"CREATE PROCEDURE g (p DECIMAL) AS BEGIN ABORT 'x' IF ^:p; END;":                                                api.ErrType,
		"CREATE PROCEDURE g () AS BEGIN LET n = SELECT COUNT(*) FROM t; ABORT 'x' IF ^:n; END;":                         api.ErrType,
		"CREATE PROCEDURE g () AS BEGIN ABORT 'x' IF ^a = 1; END;":                                                      api.ErrName,
		"CREATE PROCEDURE g (a BIGINT) AS BEGIN ABORT 'x' IF :a = 1 OR ^a = 1; END;":                                    api.ErrName,
		"CREATE PROCEDURE g () AS BEGIN SELECT a FROM t; ABORT 'x' IF ^t.a = 1; END;":                                   api.ErrName,
		"CREATE PROCEDURE g () AS BEGIN ABORT 'x' IF NOT ('a' ^= 1); END;":                                              api.ErrType,
		"CREATE PROCEDURE g () AS BEGIN ^INSERT INTO t (a) VALUES (1, 2); END;":                                         api.ErrArg,
		"CREATE PROCEDURE g () AS BEGIN UPDATE t SET b = '', ^a = 1; END;":                                              api.ErrPart,
		"CREATE PROCEDURE g () AS BEGIN SELECT ^a, COUNT(*) FROM t; END;":                                               api.ErrGroup,
	} {
		refuses(t, ahead+s, why)
	}
}

// P11.1: expressions that are too deep have no place but 0.
func TestTooDeepProcs(t *testing.T) {
	for s, why := range map[string]api.Errno{
		"ABORT 'x' IF " + deep(64) + " = 1;":          api.ErrLong,
		"ABORT 'x' IF " + deep(63) + " = 1;":          api.OK,
		"DELETE FROM t WHERE " + deep(64) + " = 1;":   api.ErrLong,
		"DELETE FROM t WHERE a = " + deep(63) + ";":   api.OK,
		"LET n = SELECT a + " + deep(64) + " FROM t;": api.ErrLong,
	} {
		refuses(t, around(s), why)
	}
}

// P11.1: procedures in which nothing is wrong: Lets that later steps name, of all types; parameters by which they are partitioned; names that are others' elsewhere.
func TestProcsThatCanBe(t *testing.T) {
	for _, steps := range []string{
		"LET n = SELECT a FROM t; LET m = SELECT COUNT(*) FROM t WHERE a = :n; ABORT '' IF :m = :n; DELETE FROM t WHERE a = :m + :n;",
		"LET n = SELECT b FROM t; INSERT INTO t (a, b) VALUES (:p, :n); SELECT :n FROM t;",
		"LET n = SELECT d FROM t; INSERT INTO t (a, d) VALUES (:p, :n); UPDATE t SET d = :n * :p;",
		"LET n = SELECT f FROM t; ABORT 'x' IF :n; ABORT 'x' IF NOT :n OR :s; DELETE FROM t WHERE :n;",
		"LET n = SELECT AVG(a) FROM t; UPDATE t SET d = :n;",
		"LET n = SELECT SUM(a) FROM t; SELECT a FROM t ORDER BY a LIMIT :n;",
		"LET a = SELECT MAX(a) FROM t; DELETE FROM t WHERE a = :a;",
		"LET t = SELECT a FROM t; LET g = SELECT a FROM t; LET \"A b\" = SELECT a FROM t; SELECT a FROM t;",
		"ABORT 'x' IF NULL; ABORT 'x' IF COALESCE(NULL, NULL); ABORT 'x' IF TRUE; ABORT 'x' IF :r LIKE '%';",
		"LET n = SELECT CAST(NULL AS BIGINT) FROM t; ABORT 'x' IF :n IS NULL;",
		strings.Repeat("SELECT a FROM t;", 32),
	} {
		loads(t, around(steps), fault{})
	}
	for _, s := range []string{
		"CREATE PROCEDURE f (p BIGINT) PARTITION BY p AS BEGIN DELETE FROM t; END; CREATE PROCEDURE g (p BOOLEAN) PARTITION BY p AS BEGIN LET q = SELECT a FROM t; END;",
		"CREATE PROCEDURE f (\"P\" BIGINT, p BOOLEAN) PARTITION BY \"P\" AS BEGIN LET q = SELECT a FROM t; END; CREATE PROCEDURE g () AS BEGIN LET q = SELECT b FROM t; END;",
		"CREATE PROCEDURE f (a DECIMAL, b VARCHAR(1), c BIGINT) PARTITION BY c AS BEGIN DELETE FROM u; END; CREATE PROCEDURE t (t BIGINT) PARTITION BY t AS BEGIN DELETE FROM t; END;",
	} {
		loads(t, tables+s, fault{})
	}
}

// P11.1: as many Lets as there are steps, beside as many parameters as there may be; each names those ahead.
func TestManyLets(t *testing.T) {
	var params, steps []string
	for i := range 16 {
		params = append(params, fmt.Sprintf("p%d BIGINT", i))
	}
	names := []string{":p15"}
	for i := range 32 {
		steps = append(steps, fmt.Sprintf("LET n%d = SELECT %s FROM t;", i, strings.Join(names, " + ")))
		names = append(names, fmt.Sprintf(":n%d", i))
	}
	loads(t, tables+"CREATE PROCEDURE f ("+strings.Join(params, ", ")+") AS BEGIN "+strings.Join(steps, " ")+" END;", fault{})
}

// a wrong step, marked at its fault, and the error.
type badStep struct {
	text string
	why  api.Errno
}

func badSteps() []badStep {
	return []badStep{
		{"^LET p = SELECT z FROM t;", api.ErrTable}, // what else is wrong in it comes behind
		{"LET l1 = SELECT a, ^z FROM t;", api.ErrName},
		{"^LET l2 = SELECT a, NULL FROM t;", api.ErrArg},
		{"^LET l3 = SELECT NULL FROM t;", api.ErrArg},
		{"ABORT 'x' IF ^:nn;", api.ErrParam},
		{"ABORT 'x' IF ^1;", api.ErrType},
		{"^DELETE FROM z WHERE z;", api.ErrName},
		{"UPDATE t SET ^a = 1, b = 1;", api.ErrPart},
	}
}

func unmarked(s string) string { return strings.ReplaceAll(s, "^", "") }

// P11.1: of several errors of a procedure the first one: of its name, its parameters, its partition, then step by step; of two declarations that of the first one.
func TestFlawsOfProcs(t *testing.T) {
	const ahead = tables + "CREATE PROCEDURE f () AS BEGIN DELETE FROM u; END;\n"
	heads := []badStep{
		{"^CREATE PROCEDURE f (p BIGINT, p BIGINT) PARTITION BY z AS BEGIN ", api.ErrTable},
		{"^CREATE PROCEDURE f (p BIGINT) PARTITION BY z AS BEGIN ", api.ErrTable},
		{"^CREATE PROCEDURE f (p BIGINT) AS BEGIN ", api.ErrTable},
		{"^CREATE PROCEDURE g (p BIGINT, p BIGINT) PARTITION BY z AS BEGIN ", api.ErrTable},
		{"^CREATE PROCEDURE g (p BIGINT, p BIGINT) AS BEGIN ", api.ErrTable},
		{"^CREATE PROCEDURE g (p BIGINT) PARTITION BY z AS BEGIN ", api.ErrPart},
		{"CREATE PROCEDURE g (p BIGINT) AS BEGIN ", api.OK},
	}
	good := []badStep{{"DELETE FROM t;", api.OK}, {"LET x = SELECT a FROM t;", api.OK}}
	for _, head := range heads {
		for _, one := range slices.Concat(badSteps(), good) {
			for _, two := range badSteps() {
				parts := []badStep{head, one, two, {" END;\n", api.OK}, {"^CREATE TABLE t (a BIGINT);", api.ErrTable}}
				i := slices.IndexFunc(parts, func(p badStep) bool { return p.why != api.OK })
				s := ahead
				for k, p := range parts {
					if k == i {
						s += p.text
					} else {
						s += unmarked(p.text)
					}
				}
				refuses(t, s, parts[i].why)
			}
		}
	}
}

// P11.1: a wrong table ahead is told ahead of a wrong procedure, and the other way about.
func TestTwoDeclarations(t *testing.T) {
	table, proc := "^CREATE TABLE t (a BIGINT);", "CREATE PROCEDURE f () AS BEGIN ^DELETE FROM z; END;"
	refuses(t, table+unmarked(proc), api.ErrKey)
	refuses(t, proc+unmarked(table), api.ErrName)
	refuses(t, "CREATE TABLE z (a BIGINT, PRIMARY KEY (a));"+unmarked(proc)+table, api.ErrKey)
	refuses(t, "CREATE TABLE z (a BIGINT, PRIMARY KEY (a));"+unmarked(proc)+"CREATE PROCEDURE g () AS BEGIN DELETE FROM z WHERE ^b; END;"+unmarked(proc), api.ErrName)
}

// unwritable is declarations that can't be written, each for a reason of its own.
func unwritable(t *testing.T) map[string][]api.Decl {
	l := map[string][]api.Decl{}
	table := func(why string, change func(d *api.Decl)) {
		d := schema(t, "CREATE TABLE t (a BIGINT, b VARCHAR(3), PRIMARY KEY (a), INDEX i (b)) PARTITION BY a LIMIT 5;")
		d[0].At = 5
		change(&d[0])
		l["table: "+why] = d
	}
	proc := func(why string, change func(p *api.Proc)) {
		d := schema(t, "CREATE PROCEDURE f (p BIGINT, q VARCHAR(3)) PARTITION BY p AS BEGIN LET n = SELECT a FROM t; ABORT 'x' IF :n = 1; DELETE FROM t; END;")
		d[0].At = 5
		change(&d[0].Proc)
		l["procedure: "+why] = d
	}
	table("no name", func(d *api.Decl) { d.Table.Name = "" })
	table("a name too long", func(d *api.Decl) { d.Table.Name = strings.Repeat("n", 33) })
	table("a name that is no text", func(d *api.Decl) { d.Table.Name = "\xff" })
	table("a name with a 0", func(d *api.Decl) { d.Table.Name = "a\x00" })
	table("no columns", func(d *api.Decl) { d.Table.Cols = nil })
	table("many columns", func(d *api.Decl) { d.Table.Cols = make([]api.Column, 17) })
	table("a column without a name", func(d *api.Decl) { d.Table.Cols[1].Name = "" })
	table("a column of no type", func(d *api.Decl) { d.Table.Cols[0].Type = 0 })
	table("a column of type 5", func(d *api.Decl) { d.Table.Cols[0].Type = 5 })
	table("Most 0", func(d *api.Decl) { d.Table.Cols[1].Most = 0 })
	table("Most 4097", func(d *api.Decl) { d.Table.Cols[1].Most = 4097 })
	table("no keys", func(d *api.Decl) { d.Table.Keys, d.Cols = nil, nil })
	table("more keys than their columns", func(d *api.Decl) { d.Cols = d.Cols[:1] })
	table("fewer keys than their columns", func(d *api.Decl) { d.Cols = append(d.Cols, []string{"a"}) })
	table("a primary key of another name", func(d *api.Decl) { d.Table.Keys[0].Name = "p" })
	table("a primary key that is not Unique", func(d *api.Decl) { d.Table.Keys[0].Unique = false })
	table("no primary key, but columns", func(d *api.Decl) { d.Table.Keys[0] = api.Key{} })
	table("no primary key, but Unique", func(d *api.Decl) { d.Table.Keys[0].Name, d.Cols[0] = "", nil })
	table("a key without a name", func(d *api.Decl) { d.Table.Keys[1].Name = "" })
	table("a key without columns", func(d *api.Decl) { d.Cols[1] = nil })
	table("a key of five columns", func(d *api.Decl) { d.Cols[1] = []string{"a", "b", "c", "d", "e"} })
	table("a key of a column without a name", func(d *api.Decl) { d.Cols[1] = []string{""} })
	table("a partition by no name", func(d *api.Decl) { d.Part = "\xff" })
	table("Most below 0", func(d *api.Decl) { d.Table.Most = -1 })
	table("Most of 4097", func(d *api.Decl) { d.Table.Most = 4097 })
	proc("no name", func(p *api.Proc) { p.Name = "" })
	proc("many parameters", func(p *api.Proc) { p.Params = make([]api.Column, 17) })
	proc("a parameter of no type", func(p *api.Proc) { p.Params[0].Type = 0 })
	proc("a parameter without a name", func(p *api.Proc) { p.Params[0].Name = "" })
	proc("a parameter of Most 0", func(p *api.Proc) { p.Params[1].Most = 0 })
	proc("a parameter that is NotNull", func(p *api.Proc) { p.Params[0].NotNull = true })
	proc("a partition by no name", func(p *api.Proc) { p.Part = strings.Repeat("n", 33) })
	proc("no steps", func(p *api.Proc) { p.Steps = nil })
	proc("many steps", func(p *api.Proc) { p.Steps = slices.Repeat(p.Steps[2:], 33) })
	proc("a step of no kind", func(p *api.Proc) { p.Steps[2].Kind = 0 })
	proc("a step of kind 4", func(p *api.Proc) { p.Steps[2].Kind = 4 })
	proc("a Let without a name", func(p *api.Proc) { p.Steps[0].Name = "" })
	proc("a Let of a DELETE", func(p *api.Proc) { p.Steps[0].Stmt = p.Steps[2].Stmt })
	proc("an Abort without a condition", func(p *api.Proc) { p.Steps[1].Cond = api.Expr{} })
	proc("an Abort with bytes", func(p *api.Proc) { p.Steps[1].Text = "\xff" })
	proc("an Abort with a long text", func(p *api.Proc) { p.Steps[1].Text = strings.Repeat("x", 4097) })
	proc("a statement of no kind", func(p *api.Proc) { p.Steps[2].Stmt.Kind = 0 })
	proc("a SELECT without items", func(p *api.Proc) { p.Steps[0].Stmt.Items = nil })
	proc("a SELECT without tables", func(p *api.Proc) { p.Steps[0].Stmt.From = nil })
	proc("a condition that can't be", func(p *api.Proc) { p.Steps[2].Stmt.Where = api.Expr{Op: "x"} })
	l["neither"] = []api.Decl{{At: 5}}
	return l
}

// P11.1: what can't be written is ErrArg at 0, whatever else is wrong, and wherever it stands.
func TestUnwritable(t *testing.T) {
	wrong := schema(t, "CREATE TABLE t (a BIGINT);")
	wrong[0].At = 3
	right := schema(t, tables)
	for why, l := range unwritable(t) {
		for _, l := range [][]api.Decl{l, slices.Concat(wrong, l), slices.Concat(l, wrong), slices.Concat(right, l)} {
			if c, at, got := catalog.New(l); c != nil || at != 0 || got != api.ErrArg {
				t.Errorf("%s: %v %d %v", why, c, at, got)
			}
		}
	}
}

// P11.1: places are those of what is named, wherever that says that it stands.
func TestPlacesAreTheirs(t *testing.T) {
	l := schema(t, "CREATE PROCEDURE f () AS BEGIN LET n = SELECT a FROM t; ABORT 'x' IF 1; DELETE FROM t; END;")
	p := &l[0].Proc
	p.Steps[0].Stmt.From[0].At = -7
	told := func(at int, why api.Errno) {
		t.Helper()
		if c, got, is := catalog.New(l); c != nil || got != at || is != why {
			t.Errorf("%d %v, not %d %v", got, is, at, why)
		}
	}
	told(-7, api.ErrName)
	p.Steps = p.Steps[1:]
	p.Steps[0].Cond.At, p.Steps[0].At = 1<<40, 3
	told(1<<40, api.ErrType)
	p.Steps[0].Cond = api.Expr{Op: "value"}
	p.Steps[1].Stmt.At, p.Steps[1].At = 70, 71
	told(70, api.ErrName)
	p.Part, p.At, l[0].At = "z", 80, 81
	told(81, api.ErrPart)
	p.Part, p.Steps = "", p.Steps[:1]
	l = append(l, l[0])
	l[1].At = 90
	told(90, api.ErrTable)
}
