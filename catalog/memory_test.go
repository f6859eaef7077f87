package catalog_test

import (
	"reflect"
	"slices"
	"testing"

	"lockstep/api"
	"lockstep/catalog"
)

// eachList tells all lists in something, at every depth, as slices.
func eachList(x reflect.Value, tell func(l reflect.Value)) {
	switch x.Kind() {
	case reflect.Slice:
		tell(x)
		for i := range x.Len() {
			eachList(x.Index(i), tell)
		}
	case reflect.Struct:
		for i := range x.NumField() {
			eachList(x.Field(i), tell)
		}
	}
}

// span is the memory of a list, its spare room too.
type span struct{ from, to uintptr }

// apart checks that no two lists of some things share any memory.
func apart(t *testing.T, note string, things ...any) {
	t.Helper()
	var l []span
	for _, x := range things {
		eachList(reflect.ValueOf(x), func(s reflect.Value) {
			if n := uintptr(s.Cap()) * s.Type().Elem().Size(); n > 0 {
				l = append(l, span{s.Pointer(), s.Pointer() + n})
			}
		})
	}
	slices.SortFunc(l, func(a, b span) int { return int(a.from>>1) - int(b.from>>1) })
	for i := 1; i < len(l); i++ {
		if l[i].from < l[i-1].to {
			t.Errorf("%s: two lists share memory", short(note))
			return
		}
	}
}

// roomy is the same with spare room behind each list, filled with what must stay.
func roomy(x reflect.Value) reflect.Value {
	c := reflect.New(x.Type()).Elem()
	switch x.Kind() {
	case reflect.Slice:
		n := x.Len()
		l := reflect.MakeSlice(x.Type(), n+2, n+2)
		for i := range n {
			l.Index(i).Set(roomy(x.Index(i)))
		}
		for i := n; i < n+2; i++ {
			l.Index(i).Set(spare(x.Type().Elem()))
		}
		c.Set(l.Slice(0, n))
	case reflect.Struct:
		for i := range x.NumField() {
			c.Field(i).Set(roomy(x.Field(i)))
		}
	default:
		c.Set(x)
	}
	return c
}

func withRoom[T any](x T) T { return roomy(reflect.ValueOf(x)).Interface().(T) }

// spare is something of a type that is not zero.
func spare(typ reflect.Type) reflect.Value {
	c := reflect.New(typ).Elem()
	switch typ.Kind() {
	case reflect.String:
		c.SetString("spare")
	case reflect.Int:
		c.SetInt(77)
	case reflect.Slice:
		c.Set(reflect.MakeSlice(typ, 1, 1))
	case reflect.Struct:
		c.Field(0).Set(spare(typ.Field(0).Type))
	}
	return c
}

// untouched tells whether two are the same, the spare room of their lists too.
func untouched(a, b reflect.Value) bool {
	switch a.Kind() {
	case reflect.Slice:
		if a.Len() != b.Len() || a.Cap() != b.Cap() {
			return false
		}
		a, b = a.Slice(0, a.Cap()), b.Slice(0, b.Cap())
		for i := range a.Len() {
			if !untouched(a.Index(i), b.Index(i)) {
				return false
			}
		}
		return true
	case reflect.Struct:
		for i := range a.NumField() {
			if !untouched(a.Field(i), b.Field(i)) {
				return false
			}
		}
		return true
	}
	return a.Equal(b)
}

// smear writes over all lists of something, their spare room too.
func smear(x any) {
	var l []reflect.Value
	eachList(reflect.ValueOf(x), func(s reflect.Value) { l = append(l, s) })
	for _, s := range slices.Backward(l) {
		s = s.Slice(0, s.Cap())
		for i := range s.Len() {
			s.Index(i).Set(spare(s.Type().Elem()))
		}
	}
}

// all is what a catalog tells of itself.
func all(c *catalog.Catalog) string { return show(c.Tables()) + show(c.Procs()) }

// Memory: what is handed in stays as it was, and is not kept: who handed it in may change it.
func TestDeclarationsAreTheirs(t *testing.T) {
	schemas(t, 800, func(l []api.Decl, c *catalog.Catalog) {
		in, was := withRoom(l), withRoom(l)
		d, _, _ := catalog.New(in)
		if !untouched(reflect.ValueOf(in), reflect.ValueOf(was)) {
			t.Fatal("declarations were changed")
		}
		apart(t, "declarations and catalog", in, d.Tables(), d.Procs())
		smear(in)
		if all(d) != all(c) {
			t.Fatalf("%s, not %s", all(d), all(c))
		}
	})
}

// P11.2: what is told is nobody else's: no list of an answer is shared with another list of it, of another answer, or with the catalog.
func TestWhatIsToldIsTheirs(t *testing.T) {
	schemas(t, 800, func(_ []api.Decl, c *catalog.Catalog) {
		was := all(c)
		told := []any{c.Tables(), c.Tables(), c.Procs(), c.Procs()}
		for _, x := range c.Tables() {
			one, _ := c.Table(x.Name)
			two, _ := c.Table(x.Name)
			told = append(told, one, two)
		}
		for _, p := range c.Procs() {
			one, _ := c.Proc(p.Name)
			two, _ := c.Proc(p.Name)
			told = append(told, one, two)
		}
		apart(t, was, told...)
		for _, x := range told {
			smear(x)
		}
		if all(c) != was {
			t.Fatalf("%s, not %s", all(c), was)
		}
	})
}

// Memory: even if lists that are handed in are one, those that are told are not.
func TestSharedDeclarations(t *testing.T) {
	l := schema(t, around("DELETE FROM t WHERE a = 1 AND b = 'x'; DELETE FROM u WHERE a = 2 AND e = '';"))
	l[2].Proc.Steps[1].Stmt = l[2].Proc.Steps[0].Stmt
	table, proc := l[1], l[2]
	table.Table.Name, proc.Proc.Name = "w", "h"
	c, _, why := catalog.New(append(l, table, proc))
	if why != api.OK || len(c.Tables()) != 3 || len(c.Procs()) != 2 {
		t.Fatal(why, all(c))
	}
	apart(t, "declared twice", c.Tables(), c.Procs())
}

// Memory: statements, parameters and arguments stay as they were; answers are new.
func TestAnswersAreNew(t *testing.T) {
	c := made(t, tables+calls[len("CREATE TABLE t (a BIGINT, PRIMARY KEY (a));\n"):])
	was := all(c)
	m := newMaker(12)
	for _, x := range c.Tables() {
		var cols []api.Col
		for _, y := range x.Cols {
			cols = append(cols, col(y.Name, y.Type))
		}
		m.known(x.Name, cols)
	}
	for i := range 3000 {
		m.params, m.astray = params(), []int{20, 1 << 30}[i%2]
		s := m.stmt()
		x, kept := withRoom(stmt(t, s)), withRoom(stmt(t, s))
		ps, keptPs := withRoom(params()), withRoom(params())
		c.Check(x, ps)
		one, _ := c.Answer(x, ps)
		two, _ := c.Answer(x, ps)
		three, _ := c.Scope(x)
		four, _ := c.Scope(x)
		if !untouched(reflect.ValueOf(x), reflect.ValueOf(kept)) || !untouched(reflect.ValueOf(ps), reflect.ValueOf(keptPs)) {
			t.Fatalf("%s was changed", s)
		}
		apart(t, s, x, ps, one, two, three, four, c.Tables())
		want, also := slices.Clone(two), slices.Clone(four)
		smear(one)
		smear(three)
		if !slices.Equal(two, want) || !slices.Equal(four, also) {
			t.Fatalf("%s: %v %v", s, two, four)
		}
	}
	args := withRoom(api.Row{num(1), num(2), text("x"), truth(1)})
	keptArgs := withRoom(slices.Clone(args))
	one, _ := c.Bind("four", args)
	two, _ := c.Bind("four", args)
	c.Bind("four", args[:3])
	if !untouched(reflect.ValueOf(args), reflect.ValueOf(keptArgs)) {
		t.Error("arguments were changed")
	}
	apart(t, "Bind", args, one, two)
	smear(one)
	smear(args)
	if !slices.Equal(two, api.Row{num(1), dec(20000), text("x"), truth(1)}) || all(c) != was {
		t.Error(two)
	}
}

// Nil and empty lists are alike.
func TestNilAndEmpty(t *testing.T) {
	for _, l := range [][]api.Decl{nil, {}} {
		if c, at, why := catalog.New(l); c == nil || at != 0 || why != api.OK || len(c.Tables())+len(c.Procs()) != 0 {
			t.Error(at, why)
		}
	}
	l := schema(t, tables+"CREATE PROCEDURE f () AS BEGIN SELECT 1 FROM t; END;")
	want := all(made(t, tables+"CREATE PROCEDURE f () AS BEGIN SELECT 1 FROM t; END;"))
	p := &l[2].Proc
	p.Params = []api.Column{}
	x := &p.Steps[0].Stmt
	x.Group, x.Order, x.Cols, x.Values, x.Sets = []api.Expr{}, []api.Order{}, []string{}, []api.Expr{}, []api.Set{}
	x.Items[0].Expr.Parts, x.Where.Parts = []api.Expr{}, []api.Expr{}
	c, _, why := catalog.New(l)
	if why != api.OK || all(c) != want {
		t.Error(why, all(c))
	}
	if at, why := c.Check(*x, []api.Col{}); at != 0 || why != api.OK {
		t.Error(at, why)
	}
	if row, why := c.Bind("f", api.Row{}); len(row) != 0 || why != api.OK {
		t.Error(row, why)
	}
	l = schema(t, "CREATE TABLE t (a BIGINT);")
	l[0].Cols[0] = []string{}
	if c, _, why := catalog.New(l); c != nil || why != api.ErrKey {
		t.Error(why)
	}
}

// From arguments alone: what was asked before changes nothing, a refusal neither.
func TestAskingChangesNothing(t *testing.T) {
	c := made(t, tables+"CREATE PROCEDURE f (p DECIMAL) AS BEGIN DELETE FROM t; END;")
	was := all(c)
	for _, s := range []string{"SELECT a FROM z", "SELECT a, a FROM t", "UPDATE t SET a = 1", "DELETE FROM t", "INSERT INTO t (a) VALUES (:p)"} {
		for _, ps := range [][]api.Col{nil, params(), {col("p", 0)}} {
			c.Check(stmt(t, s), ps)
			c.Answer(stmt(t, s), ps)
			c.Scope(stmt(t, s))
		}
		c.Bind("f", api.Row{truth(2)})
		c.Bind("z", nil)
		c.Table("z")
		if all(c) != was {
			t.Fatal(all(c))
		}
		checks(t, c, "SELECT a FROM t WHERE a = ^:p", api.ErrParam)
		checks(t, c, "SELECT a FROM t WHERE a = :p", api.OK, params()...)
		if row, why := c.Bind("f", api.Row{num(1)}); why != api.OK || row[0] != dec(10000) {
			t.Error(row, why)
		}
	}
}
