package parse_test

import (
	"reflect"
	"testing"

	"lockstep/api"
	"lockstep/parse"
)

// eachList tells all lists in something, at every depth, as slices.
func eachList(x reflect.Value, tell func(l reflect.Value)) {
	switch x.Kind() {
	case reflect.Slice:
		tell(x)
		for i := range x.Len() {
			eachList(x.Index(i), tell)
		}
	case reflect.Struct:
		for i := range x.NumField() {
			eachList(x.Field(i), tell)
		}
	}
}

// span is the memory of a list, its spare room too.
type span struct{ from, to uintptr }

func spans(x any) []span {
	var l []span
	eachList(reflect.ValueOf(x), func(s reflect.Value) {
		if n := uintptr(s.Cap()) * s.Type().Elem().Size(); n > 0 {
			l = append(l, span{s.Pointer(), s.Pointer() + n})
		}
	})
	return l
}

// apart checks that no two lists of some answers share any memory.
func apart(t *testing.T, s string, answers ...any) {
	t.Helper()
	var l []span
	for _, x := range answers {
		l = append(l, spans(x)...)
	}
	for i, a := range l {
		for _, b := range l[:i] {
			if a.from < b.to && b.from < a.to {
				t.Errorf("%s: two lists share memory", short(s))
				return
			}
		}
	}
}

// Memory: no list of an answer is shared with another list of it, or of another answer.
func TestAnswersAreNew(t *testing.T) {
	expressions(400, func(s string, _ api.Expr, _ fault) {
		a, _, _ := parse.Expr(s)
		b, _, _ := parse.Expr(s)
		apart(t, s, a, b)
	})
	statements(400, func(s string, _ api.Stmt, _ fault) {
		a, _, _ := parse.Stmt(s)
		b, _, _ := parse.Stmt(s)
		apart(t, s, a, b)
	})
	schemas(150, func(s string, _ []api.Decl, _ fault) {
		a, _, _ := parse.Schema(s)
		b, _, _ := parse.Schema(s)
		apart(t, s, a, b)
	})
}

// roomy is the same with spare room behind each list, filled with what must stay.
func roomy(x reflect.Value) reflect.Value {
	c := reflect.New(x.Type()).Elem()
	switch x.Kind() {
	case reflect.Slice:
		n := x.Len()
		l := reflect.MakeSlice(x.Type(), n+2, n+2)
		for i := range n {
			l.Index(i).Set(roomy(x.Index(i)))
		}
		for i := n; i < n+2; i++ {
			l.Index(i).Set(spare(x.Type().Elem()))
		}
		c.Set(l.Slice(0, n))
	case reflect.Struct:
		for i := range x.NumField() {
			c.Field(i).Set(roomy(x.Field(i)))
		}
	default:
		c.Set(x)
	}
	return c
}

// spare is something of a type that is not zero.
func spare(typ reflect.Type) reflect.Value {
	c := reflect.New(typ).Elem()
	switch typ.Kind() {
	case reflect.String:
		c.SetString("spare")
	case reflect.Int:
		c.SetInt(77)
	case reflect.Slice:
		c.Set(reflect.MakeSlice(typ, 1, 1))
	case reflect.Struct:
		c.Field(0).Set(spare(typ.Field(0).Type))
	}
	return c
}

// untouched tells whether two are the same, the spare room of their lists too.
func untouched(a, b reflect.Value) bool {
	switch a.Kind() {
	case reflect.Slice:
		if a.Len() != b.Len() || a.Cap() != b.Cap() {
			return false
		}
		a, b = a.Slice(0, a.Cap()), b.Slice(0, b.Cap())
		for i := range a.Len() {
			if !untouched(a.Index(i), b.Index(i)) {
				return false
			}
		}
		return true
	case reflect.Struct:
		for i := range a.NumField() {
			if !untouched(a.Field(i), b.Field(i)) {
				return false
			}
		}
		return true
	}
	return a.Equal(b)
}

// stays checks that what is written is not changed by that, its spare room neither.
func stays[T any](t *testing.T, print func(T) (string, api.Errno), x T) {
	t.Helper()
	want, why := print(x)
	y, was := roomy(reflect.ValueOf(x)), roomy(reflect.ValueOf(x))
	got, again := print(y.Interface().(T))
	if got != want || again != why {
		t.Errorf("%s %v, not %s %v", short(got), again, short(want), why)
	}
	if !untouched(y, was) {
		t.Errorf("%s was changed", short(want))
	}
}

// Memory: what is handed in stays as it was.
func TestArgumentsStay(t *testing.T) {
	expressions(300, func(_ string, e api.Expr, _ fault) { stays(t, parse.PrintExpr, e) })
	statements(300, func(_ string, x api.Stmt, _ fault) { stays(t, parse.PrintStmt, x) })
	schemas(100, func(_ string, l []api.Decl, _ fault) {
		if len(l) < 10 {
			stays(t, parse.PrintSchema, l)
		}
	})
}

// Nil and empty lists are alike.
func TestNilAndEmpty(t *testing.T) {
	for _, l := range [][]api.Decl{nil, {}} {
		writes(t, parse.PrintSchema, l, "")
	}
	writes(t, parse.PrintExpr, api.Expr{Op: "value", Parts: []api.Expr{}}, "NULL")
	x := item(0, api.Item{Expr: col(0, "a"), Name: "a"})
	x.Group, x.Order = []api.Expr{}, []api.Order{}
	writes(t, parse.PrintStmt, x, "SELECT a FROM t")
	d := plain(0, "")
	d.Cols[0] = []string{}
	writes(t, parse.PrintSchema, []api.Decl{d}, "CREATE TABLE t (a BIGINT);\n")
	p := procedure(api.Step{Kind: api.Run, Stmt: x})
	p[0].Proc.Params = []api.Column{}
	writes(t, parse.PrintSchema, p, "CREATE PROCEDURE f () AS BEGIN SELECT a FROM t; END;\n")
}

// From arguments alone: what was asked before changes nothing, a refusal neither.
func TestFromArgumentsAlone(t *testing.T) {
	want, _, _ := parse.Stmt("select a from t where b")
	for _, s := range []string{"", "'x", "select", "select " + filled(300) + "a from t", "delete from t"} {
		parse.Stmt(s)
		parse.Expr(s)
		parse.Schema(s)
		parse.PrintExpr(long(301, "or"))
		reads(t, parse.Stmt, "select a from t where b", want, fault{})
		writes(t, parse.PrintStmt, want, "SELECT a FROM t WHERE b")
	}
}
