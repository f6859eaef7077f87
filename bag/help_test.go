package bag_test

import (
	"reflect"
	"slices"
	"strings"
	"testing"

	"lockstep/api"
	"lockstep/bag"
	"lockstep/catalog"
	"lockstep/parse"
	"lockstep/value"
)

func num(n int64) api.Value   { return api.Value{Type: api.BigInt, Int: n} }
func dec(n int64) api.Value   { return api.Value{Type: api.Dec, Int: n} }
func text(s string) api.Value { return api.Value{Type: api.Text, Text: s} }
func truth(n int64) api.Value { return api.Value{Type: api.Bool, Int: n} }
func null() api.Value         { return api.Value{} }

func col(name string, typ int) api.Col { return api.Col{Name: name, Type: typ} }

func short(s string) string { return s[:min(len(s), 600)] }

// made is the catalog of a text in which nothing is wrong.
func made(t *testing.T, s string) *catalog.Catalog {
	t.Helper()
	c, at, why := catalog.Load(s)
	if why != api.OK {
		t.Fatalf("%s: %d %v", short(s), at, why)
	}
	return c
}

func stmt(t *testing.T, s string) api.Stmt {
	t.Helper()
	x, at, why := parse.Stmt(s)
	if why != api.OK {
		t.Fatalf("%s: %d %v", short(s), at, why)
	}
	return x
}

// rows reads rows: values as literals with commas between, rows with semicolons. (None of them stands in a text.)
func rows(s string) []api.Row {
	var l []api.Row
	for r := range strings.SplitSeq(s, ";") {
		if strings.TrimSpace(r) == "" {
			continue
		}
		var row api.Row
		for v := range strings.SplitSeq(r, ",") {
			x, why := value.Parse(strings.TrimSpace(v))
			if why != api.OK {
				panic("no literal: " + v)
			}
			row = append(row, x)
		}
		l = append(l, row)
	}
	return l
}

// told writes rows as they stand, so that rows reads them.
func told(l []api.Row) string {
	var all []string
	for _, r := range l {
		var one []string
		for _, v := range r {
			s, _ := value.Print(v)
			one = append(one, s)
		}
		all = append(all, strings.Join(one, ", "))
	}
	return strings.Join(all, "; ")
}

// toldBag writes rows in their order.
func toldBag(l []api.Row) string {
	l = slices.Clone(l)
	slices.SortFunc(l, value.Rows)
	return told(l)
}

// data is tables, each of its rows' text.
func data(l ...string) api.Data {
	var d api.Data
	for _, s := range l {
		d = append(d, rows(s))
	}
	return d
}

// bare is a value that can be, without what its type does not name.
func bare(v api.Value) api.Value {
	switch v.Type {
	case api.Null:
		return api.Value{}
	case api.Text:
		v.Int = 0
	default:
		v.Text = ""
	}
	return v
}

func allBare(l []api.Row) bool {
	for _, r := range l {
		for _, v := range r {
			if v != bare(v) {
				return false
			}
		}
	}
	return true
}

// outcome is all that Run answers.
type outcome struct {
	rows []api.Row
	data api.Data
	why  api.Errno
}

// run runs a statement, and looks at all that holds whatever it is: what was handed in stays as it was, with an error nothing is answered, what is answered has nothing that its type does not name, tables behind it can be, and no list shares memory with another one.
func run(t *testing.T, c *catalog.Catalog, d api.Data, x api.Stmt, params []api.Col, args api.Row) outcome {
	t.Helper()
	d, x, params, args = withRoom(d), withRoom(x), withRoom(params), withRoom(args)
	dd, xx, pp, aa := withRoom(d), withRoom(x), withRoom(params), withRoom(args)
	l, behind, why := bag.Run(c, d, x, params, args)
	note, _ := parse.PrintStmt(x)
	if !untouched(d, dd) || !untouched(x, xx) || !untouched(params, pp) || !untouched(args, aa) {
		t.Errorf("%s: what was handed in has changed", short(note))
	}
	if why != api.OK && (len(l) != 0 || len(behind) != 0) || x.Kind == api.Select && len(behind) != 0 {
		t.Errorf("%s: %v, but %d rows and %d tables", short(note), why, len(l), len(behind))
	}
	if why == api.OK && x.Kind != api.Select {
		if also := bag.Check(c, behind); also != api.OK {
			t.Errorf("%s: tables behind it: %v", short(note), also)
		}
		if len(l) != 1 || len(l[0]) != 1 || l[0][0].Type != api.BigInt {
			t.Errorf("%s: answers %v", short(note), l)
		}
	}
	if !allBare(l) || slices.ContainsFunc(behind, func(l []api.Row) bool { return !allBare(l) }) {
		t.Errorf("%s: values that have more than their types name", short(note))
	}
	apart(t, note, l, behind, d, x, params, args)
	return outcome{l, behind, why}
}

// theParams are the parameters of most tests, one of each type; their values are theArgs.
func theParams() []api.Col {
	return []api.Col{col("p", api.BigInt), col("q", api.Dec), col("r", api.Text), col("f", api.Bool), col("n", api.BigInt)}
}

func theArgs() api.Row { return api.Row{num(1), dec(15000), text("x"), truth(1), null()} }

// says checks what a SELECT answers, row by row as they stand.
func says(t *testing.T, c *catalog.Catalog, d api.Data, s, want string) {
	t.Helper()
	got := run(t, c, d, stmt(t, s), theParams(), theArgs())
	if got.why != api.OK || told(got.rows) != want {
		t.Errorf("%s: %s %v, not %s", short(s), short(told(got.rows)), got.why, short(want))
	}
}

// errs checks that a statement comes to an error.
func errs(t *testing.T, c *catalog.Catalog, d api.Data, s string, want api.Errno) {
	t.Helper()
	if got := run(t, c, d, stmt(t, s), theParams(), theArgs()); got.why != want || want == api.OK {
		t.Errorf("%s: %s %v, not %v", short(s), short(told(got.rows)), got.why, want)
	}
}

// leaves checks how many rows a statement tells, and what is in one of the tables (by its place) behind it; the others are as they were.
func leaves(t *testing.T, c *catalog.Catalog, d api.Data, s string, many int64, place int, want string) {
	t.Helper()
	got := run(t, c, d, stmt(t, s), theParams(), theArgs())
	if got.why != api.OK || len(got.data) != len(d) || got.rows[0][0] != num(many) {
		t.Errorf("%s: %s %v", short(s), told(got.rows), got.why)
		return
	}
	for i, l := range got.data {
		if i != place && toldBag(l) != toldBag(d[i]) {
			t.Errorf("%s: the table %d has changed: %s", short(s), i, short(toldBag(l)))
		}
	}
	if toldBag(got.data[place]) != toldBag(rows(want)) {
		t.Errorf("%s: %s, not %s", short(s), short(toldBag(got.data[place])), short(want))
	}
}

// eachList tells all lists in something, at every depth, as slices.
func eachList(x reflect.Value, tell func(l reflect.Value)) {
	switch x.Kind() {
	case reflect.Slice:
		tell(x)
		for i := range x.Len() {
			eachList(x.Index(i), tell)
		}
	case reflect.Struct:
		for i := range x.NumField() {
			eachList(x.Field(i), tell)
		}
	}
}

// span is the memory of a list, its spare room too.
type span struct{ from, to uintptr }

// apart checks that no two lists of some things share any memory.
func apart(t *testing.T, note string, things ...any) {
	t.Helper()
	var l []span
	for _, x := range things {
		eachList(reflect.ValueOf(x), func(s reflect.Value) {
			if n := uintptr(s.Cap()) * s.Type().Elem().Size(); n > 0 {
				l = append(l, span{s.Pointer(), s.Pointer() + n})
			}
		})
	}
	slices.SortFunc(l, func(a, b span) int { return int(a.from>>1) - int(b.from>>1) })
	for i := 1; i < len(l); i++ {
		if l[i].from < l[i-1].to {
			t.Errorf("%s: two lists share memory", short(note))
			return
		}
	}
}

// roomy is the same with spare room behind each list, filled with what must stay.
func roomy(x reflect.Value) reflect.Value {
	c := reflect.New(x.Type()).Elem()
	switch x.Kind() {
	case reflect.Slice:
		n := x.Len()
		l := reflect.MakeSlice(x.Type(), n+2, n+2)
		for i := range n {
			l.Index(i).Set(roomy(x.Index(i)))
		}
		for i := n; i < n+2; i++ {
			l.Index(i).Set(spare(x.Type().Elem()))
		}
		c.Set(l.Slice(0, n))
	case reflect.Struct:
		for i := range x.NumField() {
			c.Field(i).Set(roomy(x.Field(i)))
		}
	default:
		c.Set(x)
	}
	return c
}

func withRoom[T any](x T) T { return roomy(reflect.ValueOf(x)).Interface().(T) }

// spare is something of a type that is not zero.
func spare(typ reflect.Type) reflect.Value {
	c := reflect.New(typ).Elem()
	switch typ.Kind() {
	case reflect.String:
		c.SetString("spare")
	case reflect.Int:
		c.SetInt(77)
	case reflect.Slice:
		c.Set(reflect.MakeSlice(typ, 1, 1))
	case reflect.Struct:
		c.Field(0).Set(spare(typ.Field(0).Type))
	}
	return c
}

// untouched tells whether two are the same, the spare room of their lists too.
func untouched[T any](a, b T) bool { return unchanged(reflect.ValueOf(a), reflect.ValueOf(b)) }

func unchanged(a, b reflect.Value) bool {
	switch a.Kind() {
	case reflect.Slice:
		if a.Len() != b.Len() || a.Cap() != b.Cap() {
			return false
		}
		a, b = a.Slice(0, a.Cap()), b.Slice(0, b.Cap())
		for i := range a.Len() {
			if !unchanged(a.Index(i), b.Index(i)) {
				return false
			}
		}
		return true
	case reflect.Struct:
		for i := range a.NumField() {
			if !unchanged(a.Field(i), b.Field(i)) {
				return false
			}
		}
		return true
	}
	return a.Equal(b)
}
