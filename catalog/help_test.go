package catalog_test

import (
	"fmt"
	"reflect"
	"regexp"
	"strings"
	"testing"

	"lockstep/api"
	"lockstep/catalog"
	"lockstep/parse"
)

// fault is what is wrong, and where.
type fault struct {
	at  int
	why api.Errno
}

// marked is a text without its mark ^, and the place of that (0, if there is none).
func marked(s string) (string, int) {
	return strings.Replace(s, "^", "", 1), max(strings.Index(s, "^"), 0)
}

// show tells all fields of something. (Nil and empty lists look alike.)
func show(x any) string { return fmt.Sprintf("%+v", x) }

// alike tells whether two are the same, nil and empty lists too.
func alike(a, b any) bool { return reflect.DeepEqual(a, b) || show(a) == show(b) }

var places = regexp.MustCompile(`\bAt:-?\d+`)

// unplaced is the same, but for places.
func unplaced(x any) string { return places.ReplaceAllString(show(x), "At:0") }

func short(s string) string { return s[:min(len(s), 700)] }

// made is the catalog of a text in which nothing is wrong.
func made(t *testing.T, s string) *catalog.Catalog {
	t.Helper()
	c, at, why := catalog.Load(s)
	if c == nil || at != 0 || why != api.OK {
		t.Fatalf("%s: %v %d %v", short(s), c, at, why)
	}
	return c
}

func schema(t *testing.T, s string) []api.Decl {
	t.Helper()
	l, at, why := parse.Schema(s)
	if why != api.OK {
		t.Fatalf("%s: %d %v", short(s), at, why)
	}
	return l
}

func stmt(t *testing.T, s string) api.Stmt {
	t.Helper()
	x, at, why := parse.Stmt(s)
	if why != api.OK {
		t.Fatalf("%s: %d %v", short(s), at, why)
	}
	return x
}

// refuses checks that a text is no catalog: at its mark; by Load and by New.
func refuses(t *testing.T, s string, why api.Errno) {
	t.Helper()
	s, at := marked(s)
	loads(t, s, fault{at, why})
}

func loads(t *testing.T, s string, want fault) {
	t.Helper()
	c, at, why := catalog.Load(s)
	if (fault{at, why}) != want || (c == nil) != (want.why != api.OK) {
		t.Errorf("Load of %s: %v %d %v, not %d %v", short(s), c != nil, at, why, want.at, want.why)
	}
	c, at, why = catalog.New(schema(t, s))
	if (fault{at, why}) != want || (c == nil) != (want.why != api.OK) {
		t.Errorf("New of %s: %v %d %v, not %d %v", short(s), c != nil, at, why, want.at, want.why)
	}
}

// checks checks what Check and Answer tell of a statement: refused at its mark, or OK.
func checks(t *testing.T, c *catalog.Catalog, s string, why api.Errno, params ...api.Col) {
	t.Helper()
	s, at := marked(s)
	verdict(t, c, s, fault{at, why}, params...)
}

func verdict(t *testing.T, c *catalog.Catalog, s string, want fault, params ...api.Col) {
	t.Helper()
	x := stmt(t, s)
	if at, why := c.Check(x, params); (fault{at, why}) != want {
		t.Errorf("Check of %s: %d %v, not %d %v", short(s), at, why, want.at, want.why)
	}
	if cols, why := c.Answer(x, params); why != want.why || (len(cols) == 0) != (want.why != api.OK) {
		t.Errorf("Answer of %s: %v %v, not %v", short(s), cols, why, want.why)
	}
}

func col(name string, typ int) api.Col { return api.Col{Name: name, Type: typ} }

func num(n int64) api.Value   { return api.Value{Type: api.BigInt, Int: n} }
func dec(n int64) api.Value   { return api.Value{Type: api.Dec, Int: n} }
func text(s string) api.Value { return api.Value{Type: api.Text, Text: s} }
func truth(n int64) api.Value { return api.Value{Type: api.Bool, Int: n} }
func null() api.Value         { return api.Value{} }

// tables is two of all types, the first one partitioned.
const tables = `CREATE TABLE t (a BIGINT, b VARCHAR(3), d DECIMAL, f BOOLEAN, PRIMARY KEY (a), INDEX i (b)) PARTITION BY a;
CREATE TABLE u (a BIGINT, e VARCHAR(9), g DECIMAL, h BOOLEAN, PRIMARY KEY (e, a), UNIQUE x (g));
`

// params is one of each type.
func params() []api.Col {
	return []api.Col{col("p", api.BigInt), col("q", api.Dec), col("r", api.Text), col("s", api.Bool)}
}

// around is a text of a procedure of those steps, behind the tables.
func around(steps string) string {
	return tables + "CREATE PROCEDURE g (p BIGINT, q DECIMAL, r VARCHAR(2), s BOOLEAN) AS BEGIN " + steps + " END;"
}

// deep is a sum of n numbers, which is n expressions deep.
func deep(n int) string {
	return "1" + strings.Repeat(" + 1", n-1)
}
