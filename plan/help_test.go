package plan_test

import (
	"fmt"
	"reflect"
	"regexp"
	"slices"
	"testing"

	"lockstep/api"
	"lockstep/catalog"
	"lockstep/parse"
	"lockstep/plan"
)

func num(n int64) api.Value   { return api.Value{Type: api.BigInt, Int: n} }
func dec(n int64) api.Value   { return api.Value{Type: api.Dec, Int: n} }
func text(s string) api.Value { return api.Value{Type: api.Text, Text: s} }
func truth(n int64) api.Value { return api.Value{Type: api.Bool, Int: n} }
func null() api.Value         { return api.Value{} }

func col(name string, typ int) api.Col { return api.Col{Name: name, Type: typ} }

func short(s string) string { return s[:min(len(s), 900)] }

// show tells all fields of something. (Nil and empty lists look alike.)
func show(x any) string { return fmt.Sprintf("%+v", x) }

var places = regexp.MustCompile(`\bAt:-?\d+`)

// unplaced is the same, but for places.
func unplaced(x any) string { return places.ReplaceAllString(show(x), "At:0") }

// theParams are the parameters of all tests, one of each type, and one more.
func theParams() []api.Col {
	return []api.Col{col("p", api.BigInt), col("q", api.Dec), col("r", api.Text), col("f", api.Bool), col("n", api.BigInt)}
}

// made is the catalog of a text in which nothing is wrong.
func made(t *testing.T, s string) *catalog.Catalog {
	t.Helper()
	c, at, why := catalog.Load(s)
	if why != api.OK {
		t.Fatalf("%s: %d %v", short(s), at, why)
	}
	return c
}

func stmt(t *testing.T, s string) api.Stmt {
	t.Helper()
	x, at, why := parse.Stmt(s)
	if why != api.OK {
		t.Fatalf("%s: %d %v", short(s), at, why)
	}
	return x
}

// ex reads an expression in which nothing is wrong.
func ex(s string) api.Expr {
	e, _, why := parse.Expr(s)
	if why != api.OK {
		panic(s)
	}
	return e
}

func exs(l ...string) []api.Expr {
	var out []api.Expr
	for _, s := range l {
		out = append(out, ex(s))
	}
	return out
}

func planOf(t *testing.T, c *catalog.Catalog, s string) api.Plan {
	t.Helper()
	p, why := plan.Make(c, stmt(t, s), theParams())
	if why != api.OK {
		t.Fatalf("%s: %v", short(s), why)
	}
	return p
}

// plans checks a statement's plan as it is printed, that it is one, and that its accesses are those printed.
func plans(t *testing.T, c *catalog.Catalog, s, want string) {
	t.Helper()
	p := planOf(t, c, s)
	got, why := plan.Print(c, p)
	if why != api.OK || got != want {
		t.Errorf("%s: %q %v, not %q", short(s), got, why, want)
	}
	if why := plan.Check(c, p, theParams()); why != api.OK {
		t.Errorf("Check of %s: %v", short(s), why)
	}
	if show(p.Stmt) != show(stmt(t, s)) {
		t.Errorf("%s became %s", short(s), show(p.Stmt))
	}
}

// eachList tells all lists in something, at every depth, as slices.
func eachList(x reflect.Value, tell func(l reflect.Value)) {
	switch x.Kind() {
	case reflect.Slice:
		tell(x)
		for i := range x.Len() {
			eachList(x.Index(i), tell)
		}
	case reflect.Struct:
		for i := range x.NumField() {
			eachList(x.Field(i), tell)
		}
	}
}

// span is the memory of a list, its spare room too.
type span struct{ from, to uintptr }

// apart checks that no two lists of some things share any memory.
func apart(t *testing.T, note string, things ...any) {
	t.Helper()
	var l []span
	for _, x := range things {
		eachList(reflect.ValueOf(x), func(s reflect.Value) {
			if n := uintptr(s.Cap()) * s.Type().Elem().Size(); n > 0 {
				l = append(l, span{s.Pointer(), s.Pointer() + n})
			}
		})
	}
	slices.SortFunc(l, func(a, b span) int { return int(a.from>>1) - int(b.from>>1) })
	for i := 1; i < len(l); i++ {
		if l[i].from < l[i-1].to {
			t.Errorf("%s: two lists share memory", short(note))
			return
		}
	}
}

// roomy is the same with spare room behind each list, filled with what must stay.
func roomy(x reflect.Value) reflect.Value {
	c := reflect.New(x.Type()).Elem()
	switch x.Kind() {
	case reflect.Slice:
		n := x.Len()
		l := reflect.MakeSlice(x.Type(), n+2, n+2)
		for i := range n {
			l.Index(i).Set(roomy(x.Index(i)))
		}
		for i := n; i < n+2; i++ {
			l.Index(i).Set(spare(x.Type().Elem()))
		}
		c.Set(l.Slice(0, n))
	case reflect.Struct:
		for i := range x.NumField() {
			c.Field(i).Set(roomy(x.Field(i)))
		}
	default:
		c.Set(x)
	}
	return c
}

func withRoom[T any](x T) T { return roomy(reflect.ValueOf(x)).Interface().(T) }

// spare is something of a type that is not zero.
func spare(typ reflect.Type) reflect.Value {
	c := reflect.New(typ).Elem()
	switch typ.Kind() {
	case reflect.String:
		c.SetString("spare")
	case reflect.Int:
		c.SetInt(77)
	case reflect.Slice:
		c.Set(reflect.MakeSlice(typ, 1, 1))
	case reflect.Struct:
		c.Field(0).Set(spare(typ.Field(0).Type))
	}
	return c
}

// untouched tells whether two are the same, the spare room of their lists too.
func untouched[T any](a, b T) bool { return unchanged(reflect.ValueOf(a), reflect.ValueOf(b)) }

func unchanged(a, b reflect.Value) bool {
	switch a.Kind() {
	case reflect.Slice:
		if a.Len() != b.Len() || a.Cap() != b.Cap() {
			return false
		}
		a, b = a.Slice(0, a.Cap()), b.Slice(0, b.Cap())
		for i := range a.Len() {
			if !unchanged(a.Index(i), b.Index(i)) {
				return false
			}
		}
		return true
	case reflect.Struct:
		for i := range a.NumField() {
			if !unchanged(a.Field(i), b.Field(i)) {
				return false
			}
		}
		return true
	}
	return a.Equal(b)
}

// smear writes over all lists of something, their spare room too.
func smear(x any) {
	var l []reflect.Value
	eachList(reflect.ValueOf(x), func(s reflect.Value) { l = append(l, s) })
	for _, s := range slices.Backward(l) {
		s = s.Slice(0, s.Cap())
		for i := range s.Len() {
			s.Index(i).Set(spare(s.Type().Elem()))
		}
	}
}
