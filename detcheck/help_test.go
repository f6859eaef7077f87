package detcheck_test

import (
	"fmt"
	"reflect"
	"strings"
	"testing"

	"lockstep/api"
	"lockstep/catalog"
	"lockstep/detcheck"
	"lockstep/parse"
)

func num(n int64) api.Value   { return api.Value{Type: api.BigInt, Int: n} }
func dec(n int64) api.Value   { return api.Value{Type: api.Dec, Int: n} }
func text(s string) api.Value { return api.Value{Type: api.Text, Text: s} }
func truth(n int64) api.Value { return api.Value{Type: api.Bool, Int: n} }

func col(name string, typ int) api.Col { return api.Col{Name: name, Type: typ} }

func short(s string) string { return s[:min(len(s), 900)] }

// show tells all fields of something. (Nil and empty lists look alike.)
func show(x any) string { return fmt.Sprintf("%+v", x) }

// theParams are the parameters of all tests: two of each type.
func theParams() []api.Col {
	return []api.Col{
		col("p", api.BigInt), col("q", api.Dec), col("r", api.Text), col("f", api.Bool),
		col("p2", api.BigInt), col("q2", api.Dec), col("r2", api.Text), col("f2", api.Bool),
	}
}

// made is the catalog of a text in which nothing is wrong.
func made(t *testing.T, s string) *catalog.Catalog {
	t.Helper()
	c, at, why := catalog.Load(s)
	if why != api.OK {
		t.Fatalf("%s: %d %v", short(s), at, why)
	}
	return c
}

func stmt(t *testing.T, s string) api.Stmt {
	t.Helper()
	x, at, why := parse.Stmt(s)
	if why != api.OK {
		t.Fatalf("%s: %d %v", short(s), at, why)
	}
	return x
}

// ex reads an expression in which nothing is wrong.
func ex(s string) api.Expr {
	e, _, why := parse.Expr(s)
	if why != api.OK {
		panic(s)
	}
	return e
}

// named is columns of a statement's scope by their names: "t.a x.b".
func named(t *testing.T, c *catalog.Catalog, x api.Stmt, places []int) string {
	t.Helper()
	cols, why := c.Scope(x)
	if why != api.OK {
		t.Fatal(why)
	}
	var l []string
	for _, p := range places {
		l = append(l, cols[p].Of+"."+cols[p].Name)
	}
	return strings.Join(l, " ")
}

// fixes asks which columns are fixed, as they stand in the scope.
func fixes(t *testing.T, c *catalog.Catalog, s, want string) {
	t.Helper()
	x := stmt(t, s)
	places, why := detcheck.Fixed(c, x, theParams())
	if got := named(t, c, x, places); why != api.OK || got != want {
		t.Errorf("%s: %q %v, not %q", short(s), got, why, want)
	}
}

// settles asks whether a statement is settled.
func settles(t *testing.T, c *catalog.Catalog, s string, want bool) {
	t.Helper()
	if got, why := detcheck.Settled(c, stmt(t, s), theParams()); why != api.OK || got != want {
		t.Errorf("%s: %v %v, not %v", short(s), got, why, want)
	}
}

// stays asks whether a statement stays in the partition of a parameter.
func stays(t *testing.T, c *catalog.Catalog, s, by string, want bool) {
	t.Helper()
	if got, why := detcheck.Single(c, stmt(t, s), theParams(), by); why != api.OK || got != want {
		t.Errorf("%s by %s: %v %v, not %v", short(s), by, got, why, want)
	}
}

// refuses asks all three who are told a statement for its error.
func refuses(t *testing.T, c *catalog.Catalog, x api.Stmt, params []api.Col, by string, want api.Errno) {
	t.Helper()
	if is, why := detcheck.Settled(c, x, params); is || why != want {
		t.Errorf("Settled of %s: %v %v, not %v", short(show(x)), is, why, want)
	}
	if l, why := detcheck.Fixed(c, x, params); len(l) != 0 || why != want {
		t.Errorf("Fixed of %s: %v %v, not %v", short(show(x)), l, why, want)
	}
	if is, why := detcheck.Single(c, x, params, by); is || why != want {
		t.Errorf("Single of %s: %v %v, not %v", short(show(x)), is, why, want)
	}
}

// roomy is the same with spare room behind each list, filled with what must stay.
func roomy(x reflect.Value) reflect.Value {
	c := reflect.New(x.Type()).Elem()
	switch x.Kind() {
	case reflect.Slice:
		n := x.Len()
		l := reflect.MakeSlice(x.Type(), n+2, n+2)
		for i := range n {
			l.Index(i).Set(roomy(x.Index(i)))
		}
		for i := n; i < n+2; i++ {
			l.Index(i).Set(spare(x.Type().Elem()))
		}
		c.Set(l.Slice(0, n))
	case reflect.Struct:
		for i := range x.NumField() {
			c.Field(i).Set(roomy(x.Field(i)))
		}
	default:
		c.Set(x)
	}
	return c
}

func withRoom[T any](x T) T { return roomy(reflect.ValueOf(x)).Interface().(T) }

// spare is something of a type that is not zero.
func spare(typ reflect.Type) reflect.Value {
	c := reflect.New(typ).Elem()
	switch typ.Kind() {
	case reflect.String:
		c.SetString("spare")
	case reflect.Int:
		c.SetInt(77)
	case reflect.Slice:
		c.Set(reflect.MakeSlice(typ, 1, 1))
	case reflect.Struct:
		c.Field(0).Set(spare(typ.Field(0).Type))
	}
	return c
}

// untouched tells whether two are the same, the spare room of their lists too.
func untouched[T any](a, b T) bool { return unchanged(reflect.ValueOf(a), reflect.ValueOf(b)) }

func unchanged(a, b reflect.Value) bool {
	switch a.Kind() {
	case reflect.Slice:
		if a.Len() != b.Len() || a.Cap() != b.Cap() {
			return false
		}
		a, b = a.Slice(0, a.Cap()), b.Slice(0, b.Cap())
		for i := range a.Len() {
			if !unchanged(a.Index(i), b.Index(i)) {
				return false
			}
		}
		return true
	case reflect.Struct:
		for i := range a.NumField() {
			if !unchanged(a.Field(i), b.Field(i)) {
				return false
			}
		}
		return true
	}
	return a.Equal(b)
}
