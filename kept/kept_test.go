package kept_test

import (
	"fmt"
	"reflect"
	"testing"

	"lockstep/api"
	"lockstep/kept"
	"lockstep/parse"
)

// schema has declarations, steps, statements and expressions of all kinds.
const schema = `CREATE TABLE t (a BIGINT, b VARCHAR(3) NOT NULL, d DECIMAL, PRIMARY KEY (a, b), UNIQUE k (d), INDEX i (b));
CREATE PROCEDURE f (p BIGINT, r VARCHAR(5), q BOOLEAN) PARTITION BY p AS BEGIN
	SELECT DISTINCT x.a AS n, x.a + 1.5, 'it', TRUE, NULL FROM t AS x JOIN t ON x.a = t.a JOIN t AS y ON y.b LIKE 'x%' WHERE x.a IS NOT NULL AND :q ORDER BY n DESC LIMIT 3;
	SELECT b, COUNT(*) AS m, COUNT(DISTINCT a), SUM(a + 1) AS s FROM t GROUP BY b, CAST(b AS BIGINT) HAVING m > :p ORDER BY b LIMIT :p;
	LET c = SELECT MAX(a) FROM t;
	ABORT 'no' IF :c IN (1, 2, NULL) OR CASE WHEN :q THEN :p = 1 ELSE -1 < :p END;
	INSERT INTO t (a, b) VALUES (:p, SUBSTR(:r, 1, 2));
	UPDATE t SET d = d + 1, b = :r WHERE a = COALESCE(:p, 0);
	UPDATE t SET d = 1;
	DELETE FROM t WHERE LENGTH(b) = 2 AND NOT d * 2 > 1;
	DELETE FROM t;
END;`

// show tells all fields of something. (Nil and empty lists look alike.)
func show(x any) string { return fmt.Sprintf("%+v", x) }

func decls(t *testing.T) []api.Decl {
	t.Helper()
	l, at, why := parse.Schema(schema)
	if why != api.OK {
		t.Fatal(at, why)
	}
	return l
}

// stuff fills what plays no part, all the way down.
func stuff(v reflect.Value) {
	switch v.Kind() {
	case reflect.Slice:
		for i := range v.Len() {
			stuff(v.Index(i))
		}
	case reflect.Struct:
		for i := range v.NumField() {
			stuff(v.Field(i))
		}
	}
	more := api.Expr{Op: "value", Value: api.Value{Type: api.BigInt, Int: 99}}
	switch x := v.Addr().Interface().(type) {
	case *api.Column:
		if x.Type != api.Text {
			x.Most = 99
		}
	case *api.Value:
		switch x.Type {
		case api.Null:
			x.Int, x.Text = 99, "junk"
		case api.Text:
			x.Int = 99
		default:
			x.Text = "junk"
		}
	case *api.Expr:
		stuffExpr(x)
	case *api.Item:
		if x.Agg == "" {
			x.Star, x.Distinct = true, true
		} else if x.Star {
			x.Distinct, x.Expr = true, more
		}
	case *api.Stmt:
		stuffStmt(x, more)
	case *api.Step:
		if x.Kind != api.Abort {
			x.Cond, x.Text = more, "junk"
		} else {
			x.Stmt.Table = "junk"
		}
		if x.Kind != api.Let {
			x.Name = "junk"
		}
	}
}

func stuffExpr(x *api.Expr) {
	if x.Op == "" {
		x.Name, x.Parts = "junk", make([]api.Expr, 2)
		return
	}
	if x.Op != "column" {
		x.Of = "junk"
		if x.Op != "param" {
			x.Name = "junk"
		}
	}
	if x.Op != "cast" {
		x.Type = 99
	}
	if x.Op != "value" {
		x.Value = api.Value{Type: api.BigInt, Int: 99}
	}
}

func stuffStmt(x *api.Stmt, more api.Expr) {
	if x.Kind == api.Select {
		x.From[0].On = more
		x.Table = "junk"
	} else {
		x.Distinct, x.Items, x.From, x.Group = true, make([]api.Item, 2), make([]api.From, 2), make([]api.Expr, 2)
		x.Having, x.Limit, x.Order = more, more, make([]api.Order, 2)
	}
	if x.Kind != api.Insert {
		x.Cols, x.Values = []string{"junk"}, []api.Expr{more}
	} else {
		x.Where = more
	}
	if x.Kind != api.Update {
		x.Sets = make([]api.Set, 2)
	}
}

// What plays no part goes, and all else stays, places too.
func TestWhatPlaysNoPart(t *testing.T) {
	want, in := decls(t), decls(t)
	stuff(reflect.ValueOf(&in).Elem())
	if show(in) == show(want) {
		t.Fatal("nothing was stuffed")
	}
	if got := kept.Table(&in[0].Table); show(got) != show(want[0].Table) {
		t.Errorf("%+v, not %+v", got, want[0].Table)
	}
	if got := kept.Proc(&in[1].Proc); show(got) != show(want[1].Proc) {
		t.Errorf("%+v\nnot\n%+v", got, want[1].Proc)
	}
	for i := range want[1].Proc.Steps {
		s, w := &in[1].Proc.Steps[i], &want[1].Proc.Steps[i]
		if s.Kind == api.Abort {
			if got := kept.Expr(&s.Cond); show(got) != show(w.Cond) {
				t.Errorf("%+v, not %+v", got, w.Cond)
			}
		} else if got := kept.Stmt(&s.Stmt); show(got) != show(w.Stmt) {
			t.Errorf("%+v, not %+v", got, w.Stmt)
		}
	}
	in[0].Table.Keys[1].Cols = []int{2}
	if got := kept.Table(&in[0].Table); show(got.Keys[1].Cols) != "[2]" {
		t.Error(got.Keys)
	}
}

// eachList tells all lists in something, at every depth, as slices.
func eachList(x reflect.Value, tell func(l reflect.Value)) {
	switch x.Kind() {
	case reflect.Slice:
		tell(x)
		for i := range x.Len() {
			eachList(x.Index(i), tell)
		}
	case reflect.Struct:
		for i := range x.NumField() {
			eachList(x.Field(i), tell)
		}
	}
}

// What is kept shares no list with what it is of, nor two of its lists one.
func TestMemoryOfItsOwn(t *testing.T) {
	in := decls(t)
	in[0].Table.Keys[1].Cols = []int{2}
	// One list that stands in two places.
	steps := in[1].Proc.Steps
	steps[len(steps)-1] = steps[5]
	seen := map[uintptr]int{}
	lists := 0
	note := func(x any) {
		eachList(reflect.ValueOf(x), func(l reflect.Value) {
			if l.Cap() > 0 {
				seen[l.Pointer()]++
				lists++
			}
		})
	}
	note(in[:1])
	note(in[1].Proc.Steps[:len(steps)-1])
	for range 2 {
		note(kept.Table(&in[0].Table))
		note(kept.Proc(&in[1].Proc))
		note(kept.Stmt(&steps[0].Stmt))
		note(kept.Expr(&steps[3].Cond))
	}
	if len(seen) != lists || lists < 100 {
		t.Errorf("%d lists, of which %d are their own", lists, len(seen))
	}
}

// Nothing is kept of nothing.
func TestNothing(t *testing.T) {
	if e := kept.Expr(&api.Expr{Name: "junk", At: 7}); show(e) != show(api.Expr{}) {
		t.Error(e)
	}
	for _, l := range [][]api.Column{nil, {}} {
		if got := kept.Table(&api.Table{Cols: l}); got.Cols != nil || got.Keys != nil {
			t.Error(got)
		}
	}
}
