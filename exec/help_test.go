package exec_test

import (
	"fmt"
	"reflect"
	"slices"
	"strings"
	"testing"

	"lockstep/api"
	"lockstep/bag"
	"lockstep/catalog"
	"lockstep/exec"
	"lockstep/parse"
	"lockstep/plan"
	"lockstep/table"
	"lockstep/value"
)

func num(n int64) api.Value   { return api.Value{Type: api.BigInt, Int: n} }
func dec(n int64) api.Value   { return api.Value{Type: api.Dec, Int: n} }
func text(s string) api.Value { return api.Value{Type: api.Text, Text: s} }
func truth(n int64) api.Value { return api.Value{Type: api.Bool, Int: n} }
func null() api.Value         { return api.Value{} }

func col(name string, typ int) api.Col { return api.Col{Name: name, Type: typ} }

func short(s string) string { return s[:min(len(s), 900)] }

// show tells all fields of something. (Nil and empty lists look alike.)
func show(x any) string { return fmt.Sprintf("%+v", x) }

// theParams are the parameters of most tests, one of each type, and one more; their values are theArgs.
func theParams() []api.Col {
	return []api.Col{col("p", api.BigInt), col("q", api.Dec), col("r", api.Text), col("f", api.Bool), col("n", api.BigInt)}
}

func theArgs() api.Row { return api.Row{num(1), dec(15000), text("x"), truth(1), null()} }

// made is the catalog of a text in which nothing is wrong.
func made(t *testing.T, s string) *catalog.Catalog {
	t.Helper()
	c, at, why := catalog.Load(s)
	if why != api.OK {
		t.Fatalf("%s: %d %v", short(s), at, why)
	}
	return c
}

func stmt(t *testing.T, s string) api.Stmt {
	t.Helper()
	x, at, why := parse.Stmt(s)
	if why != api.OK {
		t.Fatalf("%s: %d %v", short(s), at, why)
	}
	return x
}

// rows reads rows: values as literals with commas between, rows with semicolons. (None of them stands in a text.)
func rows(s string) []api.Row {
	var l []api.Row
	for r := range strings.SplitSeq(s, ";") {
		if strings.TrimSpace(r) == "" {
			continue
		}
		var row api.Row
		for v := range strings.SplitSeq(r, ",") {
			x, why := value.Parse(strings.TrimSpace(v))
			if why != api.OK {
				panic("no literal: " + v)
			}
			row = append(row, x)
		}
		l = append(l, row)
	}
	return l
}

// told writes rows as they stand, so that rows reads them.
func told(l []api.Row) string {
	var all []string
	for _, r := range l {
		var one []string
		for _, v := range r {
			s, _ := value.Print(v)
			one = append(one, s)
		}
		all = append(all, strings.Join(one, ", "))
	}
	return strings.Join(all, "; ")
}

// data is tables, each of its rows' text.
func data(l ...string) api.Data {
	var d api.Data
	for _, s := range l {
		d = append(d, rows(s))
	}
	return d
}

// loaded is tables of such rows.
func loaded(t *testing.T, c *catalog.Catalog, d api.Data) []*table.Table {
	t.Helper()
	l, why := exec.Load(c, d)
	if why != api.OK {
		t.Fatalf("Load: %v", why)
	}
	return l
}

func clones(l []*table.Table) []*table.Table {
	var out []*table.Table
	for _, t := range l {
		out = append(out, t.Clone())
	}
	return out
}

// stateOf is all that tables tell: rows with their numbers, the number that comes next, how many changes were made.
func stateOf(l []*table.Table) string {
	s := ""
	for _, t := range l {
		s += fmt.Sprint(t.Form().Name, t.Rows(), t.Next(), " ", t.Mark(), "\n")
	}
	return s
}

// heldOf is what tables hold, whatever changes can be taken back.
func heldOf(l []*table.Table) string {
	s := ""
	for _, t := range l {
		s += fmt.Sprint(t.Form().Name, t.Rows(), t.Next(), "\n")
	}
	return s
}

// byKeys checks that each row is found under each of its keys.
func byKeys(t *testing.T, note string, l []*table.Table) {
	t.Helper()
	for _, x := range l {
		for no, k := range x.Form().Keys {
			found, _ := x.Range(no, api.Bounds{})
			many := 0
			for id, r := range found {
				var key api.Row
				for _, c := range k.Cols {
					key = append(key, r[c])
				}
				if ids, _ := x.Find(no, key); !slices.Contains(ids, id) {
					t.Errorf("%s: %d of %v is not under its key", note, id, r)
				}
				many++
			}
			if many != x.Len() {
				t.Errorf("%s: %d of %d rows by the key %d", note, many, x.Len(), no)
			}
		}
	}
}

// outcome is what a statement came to.
type outcome struct {
	rows []api.Row
	why  api.Errno
	l    []*table.Table
}

// agrees does a statement by a plan on tables that are the same, and checks all that P16.2 says: the answer and the tables are bag's; with an error nothing has changed; Back takes back just that statement; what was handed in stays as it was, and no list shares memory with another one.
func agrees(t *testing.T, c *catalog.Catalog, l []*table.Table, p api.Plan, params []api.Col, args api.Row) outcome {
	t.Helper()
	note := noted(c, p)
	before := exec.Data(l)
	want, behind, wrong := bag.Run(c, before, p.Stmt, params, args)
	x := clones(l)
	hand := slices.Clone(x)
	p, params, args = withRoom(p), withRoom(params), withRoom(args)
	pp, qq, aa := withRoom(p), withRoom(params), withRoom(args)
	got, why := exec.Run(c, x, p, params, args)
	if why != wrong || show(got) != show(want) {
		t.Errorf("%s%s: %s %v, not %s %v", note, short(show(before)), short(told(got)), why, short(told(want)), wrong)
	}
	if !untouched(p, pp) || !untouched(params, qq) || !untouched(args, aa) || !slices.Equal(hand, x) {
		t.Errorf("%s: what was handed in has changed", note)
	}
	apart(t, note, got, p, params, args)
	changes := why == api.OK && p.Stmt.Kind != api.Select
	if !changes {
		behind = before
		if stateOf(x) != stateOf(l) {
			t.Errorf("%s: %v, but tables have changed: %s not %s", note, why, stateOf(x), stateOf(l))
		}
	}
	if !bag.Same(exec.Data(x), behind) {
		t.Errorf("%s: of %s came %s, not %s", note, short(show(before)), short(show(exec.Data(x))), short(show(behind)))
	}
	if changes {
		changed(t, note, p.Stmt.Table, l, x)
	}
	return outcome{got, why, x}
}

// changed checks tables behind a statement that changed one of them.
func changed(t *testing.T, note, name string, l, x []*table.Table) {
	t.Helper()
	byKeys(t, note, x)
	for i := range l {
		if l[i].Form().Name != name && stateOf(x[i:i+1]) != stateOf(l[i:i+1]) {
			t.Errorf("%s: another table has changed", note)
		}
		if x[i].Mark() < l[i].Mark() {
			t.Errorf("%s: Mark was %d, is %d", note, l[i].Mark(), x[i].Mark())
		}
	}
	back := clones(x)
	for i := range l {
		if why := back[i].Back(l[i].Mark()); why != api.OK {
			t.Errorf("%s: Back: %v", note, why)
		}
	}
	if stateOf(back) != stateOf(l) {
		t.Errorf("%s: taken back it is %s, not %s", note, stateOf(back), stateOf(l))
	}
}

// noted is a statement and its plan as texts.
func noted(c *catalog.Catalog, p api.Plan) string {
	s, _ := parse.PrintStmt(p.Stmt)
	way, _ := plan.Print(c, p)
	return short(s) + "\n" + way
}

// all does a statement by each of its plans, or by fifty of them, and by Do, and checks that all agree: that is what it comes to.
func all(t *testing.T, c *catalog.Catalog, l []*table.Table, s string) outcome {
	t.Helper()
	return allOf(t, c, l, stmt(t, s), theArgs(), 50)
}

func allOf(t *testing.T, c *catalog.Catalog, l []*table.Table, x api.Stmt, args api.Row, most int) outcome {
	t.Helper()
	for _, a := range everyPlan(modelOf(c, x, theParams()), most) {
		p := api.Plan{Stmt: x, Access: a}
		if why := plan.Check(c, p, theParams()); why != api.OK {
			t.Fatalf("%s: %v", noted(c, p), why)
		}
		agrees(t, c, l, p, theParams(), args)
		if t.Failed() {
			break
		}
	}
	return does(t, c, l, x, theParams(), args)
}

// does does a statement, and checks that it comes to what plan.Make's plan comes to.
func does(t *testing.T, c *catalog.Catalog, l []*table.Table, x api.Stmt, params []api.Col, args api.Row) outcome {
	t.Helper()
	p, why := plan.Make(c, x, params)
	if why != api.OK {
		t.Fatalf("%s: %v", show(x), why)
	}
	want := agrees(t, c, l, p, params, args)
	d := clones(l)
	x, params, args = withRoom(x), withRoom(params), withRoom(args)
	xx, qq, aa := withRoom(x), withRoom(params), withRoom(args)
	got, why := exec.Do(c, d, x, params, args)
	note := noted(c, p)
	if why != want.why || show(got) != show(want.rows) || stateOf(d) != stateOf(want.l) {
		t.Errorf("Do of %s: %s %v, not %s %v", note, short(told(got)), why, short(told(want.rows)), want.why)
	}
	if !untouched(x, xx) || !untouched(params, qq) || !untouched(args, aa) {
		t.Errorf("Do of %s: what was handed in has changed", note)
	}
	apart(t, note, got, x, params, args)
	return want
}

// says checks what a statement answers by all plans, row by row as they stand.
func says(t *testing.T, c *catalog.Catalog, l []*table.Table, s, want string) {
	t.Helper()
	if got := all(t, c, l, s); got.why != api.OK || told(got.rows) != want {
		t.Errorf("%s: %s %v, not %s", short(s), short(told(got.rows)), got.why, short(want))
	}
}

// errs checks that a statement comes to an error by all plans.
func errs(t *testing.T, c *catalog.Catalog, l []*table.Table, s string, want api.Errno) {
	t.Helper()
	if got := all(t, c, l, s); got.why != want || want == api.OK {
		t.Errorf("%s: %s %v, not %v", short(s), short(told(got.rows)), got.why, want)
	}
}

// leaves checks how many rows a statement tells, and what the first table holds behind it.
func leaves(t *testing.T, c *catalog.Catalog, l []*table.Table, s string, many int64, want string) {
	t.Helper()
	got := all(t, c, l, s)
	if got.why != api.OK || told(got.rows) != told([]api.Row{{num(many)}}) {
		t.Errorf("%s: %s %v", short(s), short(told(got.rows)), got.why)
		return
	}
	is, ought := bag.Sorted(exec.Data(got.l[:1])), bag.Sorted(data(want))
	if told(is[0]) != told(ought[0]) {
		t.Errorf("%s: %s, not %s", short(s), short(told(is[0])), short(want))
	}
}

// eachList tells all lists in something, at every depth, as slices.
func eachList(x reflect.Value, tell func(l reflect.Value)) {
	switch x.Kind() {
	case reflect.Slice:
		tell(x)
		for i := range x.Len() {
			eachList(x.Index(i), tell)
		}
	case reflect.Struct:
		for i := range x.NumField() {
			eachList(x.Field(i), tell)
		}
	}
}

// span is the memory of a list, its spare room too.
type span struct{ from, to uintptr }

// apart checks that no two lists of some things share any memory.
func apart(t *testing.T, note string, things ...any) {
	t.Helper()
	var l []span
	for _, x := range things {
		eachList(reflect.ValueOf(x), func(s reflect.Value) {
			if n := uintptr(s.Cap()) * s.Type().Elem().Size(); n > 0 {
				l = append(l, span{s.Pointer(), s.Pointer() + n})
			}
		})
	}
	slices.SortFunc(l, func(a, b span) int { return int(a.from>>1) - int(b.from>>1) })
	for i := 1; i < len(l); i++ {
		if l[i].from < l[i-1].to {
			t.Errorf("%s: two lists share memory", short(note))
			return
		}
	}
}

// roomy is the same with spare room behind each list, filled with what must stay.
func roomy(x reflect.Value) reflect.Value {
	c := reflect.New(x.Type()).Elem()
	switch x.Kind() {
	case reflect.Slice:
		n := x.Len()
		l := reflect.MakeSlice(x.Type(), n+2, n+2)
		for i := range n {
			l.Index(i).Set(roomy(x.Index(i)))
		}
		for i := n; i < n+2; i++ {
			l.Index(i).Set(spare(x.Type().Elem()))
		}
		c.Set(l.Slice(0, n))
	case reflect.Struct:
		for i := range x.NumField() {
			c.Field(i).Set(roomy(x.Field(i)))
		}
	default:
		c.Set(x)
	}
	return c
}

func withRoom[T any](x T) T { return roomy(reflect.ValueOf(x)).Interface().(T) }

// spare is something of a type that is not zero.
func spare(typ reflect.Type) reflect.Value {
	c := reflect.New(typ).Elem()
	switch typ.Kind() {
	case reflect.String:
		c.SetString("spare")
	case reflect.Int:
		c.SetInt(77)
	case reflect.Slice:
		c.Set(reflect.MakeSlice(typ, 1, 1))
	case reflect.Struct:
		c.Field(0).Set(spare(typ.Field(0).Type))
	}
	return c
}

// untouched tells whether two are the same, the spare room of their lists too.
func untouched[T any](a, b T) bool { return unchanged(reflect.ValueOf(a), reflect.ValueOf(b)) }

func unchanged(a, b reflect.Value) bool {
	switch a.Kind() {
	case reflect.Slice:
		if a.Len() != b.Len() || a.Cap() != b.Cap() {
			return false
		}
		a, b = a.Slice(0, a.Cap()), b.Slice(0, b.Cap())
		for i := range a.Len() {
			if !unchanged(a.Index(i), b.Index(i)) {
				return false
			}
		}
		return true
	case reflect.Struct:
		for i := range a.NumField() {
			if !unchanged(a.Field(i), b.Field(i)) {
				return false
			}
		}
		return true
	}
	return a.Equal(b)
}

// smear writes over all lists of something, their spare room too.
func smear(x any) {
	var l []reflect.Value
	eachList(reflect.ValueOf(x), func(s reflect.Value) { l = append(l, s) })
	for _, s := range slices.Backward(l) {
		s = s.Slice(0, s.Cap())
		for i := range s.Len() {
			s.Index(i).Set(spare(s.Type().Elem()))
		}
	}
}
