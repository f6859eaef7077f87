package proc_test

import (
	"fmt"
	"reflect"
	"slices"
	"strings"
	"testing"

	"lockstep/api"
	"lockstep/bag"
	"lockstep/catalog"
	"lockstep/parse"
	"lockstep/proc"
	"lockstep/value"
)

func num(n int64) api.Value   { return api.Value{Type: api.BigInt, Int: n} }
func dec(n int64) api.Value   { return api.Value{Type: api.Dec, Int: n} }
func text(s string) api.Value { return api.Value{Type: api.Text, Text: s} }
func truth(n int64) api.Value { return api.Value{Type: api.Bool, Int: n} }
func null() api.Value         { return api.Value{} }

func col(name string, typ int) api.Col { return api.Col{Name: name, Type: typ} }

func short(s string) string { return s[:min(len(s), 900)] }

// show tells all fields of something. (Nil and empty lists look alike.)
func show(x any) string { return fmt.Sprintf("%+v", x) }

// made is the catalog of a text in which nothing is wrong.
func made(t *testing.T, s string) *catalog.Catalog {
	t.Helper()
	c, at, why := catalog.Load(s)
	if why != api.OK {
		t.Fatalf("%s: %d %v", short(s), at, why)
	}
	return c
}

// tables are those of most tests.
const tables = `CREATE TABLE acc (id BIGINT, bal BIGINT, PRIMARY KEY (id));
CREATE TABLE u (a BIGINT, d DECIMAL, s VARCHAR(3), f BOOLEAN, PRIMARY KEY (a), UNIQUE k (s)) LIMIT 4;
`

// held is their rows.
func held() api.Data {
	return data("1, 5; 2, 0; 3, NULL", "1, 1.5, 'x', TRUE; 2, NULL, NULL, NULL")
}

// procText is a procedure of such parameters and steps.
func procText(name, params string, steps ...string) string {
	return "CREATE PROCEDURE " + name + " (" + params + ") AS BEGIN " + strings.Join(steps, "; ") + "; END;\n"
}

// proced is a catalog of the tables, and of a procedure f without parameters.
func proced(t *testing.T, steps ...string) *catalog.Catalog {
	t.Helper()
	return made(t, tables+procText("f", "", steps...))
}

func stmt(t *testing.T, s string) api.Stmt {
	t.Helper()
	x, at, why := parse.Stmt(s)
	if why != api.OK {
		t.Fatalf("%s: %d %v", short(s), at, why)
	}
	return x
}

func printed(x api.Stmt) string {
	s, _ := parse.PrintStmt(x)
	return s
}

// over is such tables as a base.
func over(t *testing.T, c *catalog.Catalog, d api.Data) *proc.Whole {
	t.Helper()
	w, why := proc.Over(c, d)
	if why != api.OK || w == nil {
		t.Fatalf("Over: %v", why)
	}
	return w
}

// rows reads rows: values as literals with commas between, rows with semicolons. (None of them stands in a text.)
func rows(s string) []api.Row {
	var l []api.Row
	for r := range strings.SplitSeq(s, ";") {
		if strings.TrimSpace(r) == "" {
			continue
		}
		var row api.Row
		for v := range strings.SplitSeq(r, ",") {
			x, why := value.Parse(strings.TrimSpace(v))
			if why != api.OK {
				panic("no literal: " + v)
			}
			row = append(row, x)
		}
		l = append(l, row)
	}
	return l
}

// told writes rows as they stand, so that rows reads them.
func told(l []api.Row) string {
	var all []string
	for _, r := range l {
		var one []string
		for _, v := range r {
			s, _ := value.Print(v)
			one = append(one, s)
		}
		all = append(all, strings.Join(one, ", "))
	}
	return strings.Join(all, "; ")
}

// data is tables, each of its rows' text.
func data(l ...string) api.Data {
	var d api.Data
	for _, s := range l {
		d = append(d, rows(s))
	}
	return d
}

// outcome is what answers are: each of its rows' text.
func outcome(answers ...string) api.Outcome {
	var o api.Outcome
	for _, s := range answers {
		o.Answers = append(o.Answers, rows(s))
	}
	return o
}

func fails(why api.Errno, step int) api.Outcome { return api.Outcome{Err: why, Step: step} }

func aborts(step int, text string) api.Outcome {
	return api.Outcome{Err: api.ErrAbort, Step: step, Text: text}
}

// runs checks what a procedure comes to, whichever tables it is run on, and that these hold what they held behind an error.
func runs(t *testing.T, c *catalog.Catalog, name string, args api.Row, want api.Outcome, behind api.Data) {
	t.Helper()
	w := over(t, c, held())
	got, why := proc.Run(c, w, name, args)
	if why != api.OK || show(got) != show(want) {
		t.Errorf("%s of %s: %s %v, not %s", name, told([]api.Row{args}), short(show(got)), why, short(show(want)))
	}
	if want.Err != api.OK {
		behind = held()
		if w.Mark() != 0 {
			t.Errorf("%s: Mark is %d", name, w.Mark())
		}
	}
	if !bag.Same(w.Data(), behind) {
		t.Errorf("%s: there are %s, not %s", name, short(show(w.Data())), short(show(behind)))
	}
}

// refuses checks that a procedure isn't run: an error, no outcome, and nothing asked of the base.
func refuses(t *testing.T, c *catalog.Catalog, name string, args api.Row, want api.Errno) {
	t.Helper()
	b := &spy{}
	if o, why := proc.Run(c, b, name, args); why != want || show(o) != show(api.Outcome{}) || len(b.calls) != 0 {
		t.Errorf("%s of %s: %s %v %q, not %v", name, show(args), show(o), why, b.calls, want)
	}
}

// eachList tells all lists in something, at every depth, as slices.
func eachList(x reflect.Value, tell func(l reflect.Value)) {
	switch x.Kind() {
	case reflect.Slice:
		tell(x)
		for i := range x.Len() {
			eachList(x.Index(i), tell)
		}
	case reflect.Struct:
		for i := range x.NumField() {
			eachList(x.Field(i), tell)
		}
	}
}

// span is the memory of a list, its spare room too.
type span struct{ from, to uintptr }

// apart checks that no two lists of some things share any memory.
func apart(t *testing.T, note string, things ...any) {
	t.Helper()
	var l []span
	for _, x := range things {
		eachList(reflect.ValueOf(x), func(s reflect.Value) {
			if n := uintptr(s.Cap()) * s.Type().Elem().Size(); n > 0 {
				l = append(l, span{s.Pointer(), s.Pointer() + n})
			}
		})
	}
	slices.SortFunc(l, func(a, b span) int { return int(a.from>>1) - int(b.from>>1) })
	for i := 1; i < len(l); i++ {
		if l[i].from < l[i-1].to {
			t.Errorf("%s: two lists share memory", short(note))
			return
		}
	}
}

// roomy is the same with spare room behind each list, filled with what must stay.
func roomy(x reflect.Value) reflect.Value {
	c := reflect.New(x.Type()).Elem()
	switch x.Kind() {
	case reflect.Slice:
		n := x.Len()
		l := reflect.MakeSlice(x.Type(), n+2, n+2)
		for i := range n {
			l.Index(i).Set(roomy(x.Index(i)))
		}
		for i := n; i < n+2; i++ {
			l.Index(i).Set(spare(x.Type().Elem()))
		}
		c.Set(l.Slice(0, n))
	case reflect.Struct:
		for i := range x.NumField() {
			c.Field(i).Set(roomy(x.Field(i)))
		}
	default:
		c.Set(x)
	}
	return c
}

func withRoom[T any](x T) T { return roomy(reflect.ValueOf(x)).Interface().(T) }

// spare is something of a type that is not zero.
func spare(typ reflect.Type) reflect.Value {
	c := reflect.New(typ).Elem()
	switch typ.Kind() {
	case reflect.String:
		c.SetString("spare")
	case reflect.Int:
		c.SetInt(77)
	case reflect.Slice:
		c.Set(reflect.MakeSlice(typ, 1, 1))
	case reflect.Struct:
		c.Field(0).Set(spare(typ.Field(0).Type))
	}
	return c
}

// untouched tells whether two are the same, the spare room of their lists too.
func untouched[T any](a, b T) bool { return unchanged(reflect.ValueOf(a), reflect.ValueOf(b)) }

func unchanged(a, b reflect.Value) bool {
	switch a.Kind() {
	case reflect.Slice:
		if a.Len() != b.Len() || a.Cap() != b.Cap() {
			return false
		}
		a, b = a.Slice(0, a.Cap()), b.Slice(0, b.Cap())
		for i := range a.Len() {
			if !unchanged(a.Index(i), b.Index(i)) {
				return false
			}
		}
		return true
	case reflect.Struct:
		for i := range a.NumField() {
			if !unchanged(a.Field(i), b.Field(i)) {
				return false
			}
		}
		return true
	}
	return a.Equal(b)
}

// smear writes over all lists of something, their spare room too.
func smear(x any) {
	var l []reflect.Value
	eachList(reflect.ValueOf(x), func(s reflect.Value) { l = append(l, s) })
	for _, s := range slices.Backward(l) {
		s = s.Slice(0, s.Cap())
		for i := range s.Len() {
			s.Index(i).Set(spare(s.Type().Elem()))
		}
	}
}
