package expr_test

import (
	"fmt"
	"math"
	"math/rand"
	"strings"
	"testing"
	"unicode/utf8"

	"lockstep/api"
	"lockstep/expr"
	"lockstep/value"
)

// How expressions are written down in the tests.

func num(n int64) api.Value { return api.Value{Type: api.BigInt, Int: n} }

func dec(n int64) api.Value { return api.Value{Type: api.Dec, Int: n} }

func text(s string) api.Value { return api.Value{Type: api.Text, Text: s} }

func boolean(n int64) api.Value { return api.Value{Type: api.Bool, Int: n} }

func null() api.Value { return api.Value{} }

func lit(v api.Value) api.Expr { return api.Expr{Op: "value", Value: v} }

func column(name string) api.Expr {
	of, alone, both := strings.Cut(name, ".")
	if both {
		return api.Expr{Op: "column", Name: alone, Of: of}
	}
	return api.Expr{Op: "column", Name: name}
}

func param(name string) api.Expr { return api.Expr{Op: "param", Name: name} }

func op(o string, parts ...api.Expr) api.Expr { return api.Expr{Op: o, Parts: parts} }

func cast(to int, part api.Expr) api.Expr {
	return api.Expr{Op: "cast", Parts: []api.Expr{part}, Type: to}
}

func at(place int, e api.Expr) api.Expr {
	e.At = place
	return e
}

// zero is an expression that is well typed, and refused when it is reckoned.
func zero() api.Expr { return op("/", lit(num(1)), lit(num(0))) }

// wrong is a condition that is well typed, and refused when it is reckoned.
func wrong() api.Expr { return op("=", zero(), lit(num(1))) }

func opsOf(parts int) []string {
	return map[int][]string{
		0: {"value", "column", "param"},
		1: {"not", "neg", "is null", "cast", "length"},
		2: {"and", "or", "=", "<>", "<", "<=", ">", ">=", "+", "-", "*", "/", "||", "like", "coalesce"},
		3: {"substr", "case"},
	}[parts]
}

// ops is all of the table's but in, which has no number of Parts.
func ops() []string {
	var l []string
	for n := range 4 {
		l = append(l, opsOf(n)...)
	}
	return l
}

// The model tells chapter 7 in another way than the package does: types by signatures that are written out, what an expression comes to by reckoning all Parts first, with their errors, and then choosing among them.

// letter is a type's; N, which is NULL alone, fits every other one.
func letter(typ int) string { return string("NIDTB"[typ]) }

// signatures is, of an Op, the types that its Parts may have, and the type that it has with them.
func signatures(o string) []string {
	switch o {
	case "and", "or":
		return []string{"BB>B"}
	case "not":
		return []string{"B>B"}
	case "=", "<>", "<", "<=", ">", ">=":
		return []string{"II>B", "ID>B", "DI>B", "DD>B", "TT>B", "BB>B"}
	case "+", "-", "*", "/":
		return []string{"II>I", "ID>D", "DI>D", "DD>D"}
	case "neg":
		return []string{"I>I", "D>D"}
	case "||":
		return []string{"TT>T"}
	case "is null":
		return []string{"I>B", "D>B", "T>B", "B>B"}
	case "like":
		return []string{"TT>B"}
	case "length":
		return []string{"T>I"}
	case "substr":
		return []string{"TII>T"}
	case "coalesce":
		return []string{"II>I", "ID>D", "DI>D", "DD>D", "TT>T", "BB>B"}
	case "case":
		return []string{"BII>I", "BID>D", "BDI>D", "BDD>D", "BTT>T", "BBB>B"}
	}
	return nil
}

// signed is the type of an Op with Parts of these types, and whether it has one.
func signed(o, parts string) (int, bool) {
	for _, s := range signatures(o) {
		want, typ, _ := strings.Cut(s, ">")
		fits := len(want) == len(parts)
		for i := range parts {
			fits = fits && (parts[i] == 'N' || parts[i] == want[i])
		}
		if !fits {
			continue
		}
		// Of what is NULL alone, the type that is theirs is none.
		if o == "neg" && parts == "N" || o == "coalesce" && parts == "NN" || o == "case" && parts[1:] == "NN" {
			return api.Null, true
		}
		return strings.Index("NIDTB", typ), true
	}
	return 0, false
}

// behind is all expressions in e, each behind its Parts, and how many are in one another.
func behind(e api.Expr) ([]api.Expr, int) {
	var l []api.Expr
	deep := 0
	for _, p := range e.Parts {
		inner, d := behind(p)
		l = append(l, inner...)
		deep = max(deep, d)
	}
	return append(l, e), deep + 1
}

func modelCan(e api.Expr) bool {
	if e.Op == "in" {
		return len(e.Parts) >= 2
	}
	for n := range 4 {
		for _, o := range opsOf(n) {
			if o == e.Op {
				return len(e.Parts) == n && (o != "value" || value.Check(e.Value) == api.OK) && (o != "cast" || e.Type >= 1 && e.Type <= 4)
			}
		}
	}
	return false
}

// meant is the places of the columns that a name may mean.
func meant(e api.Expr, cols []api.Col) []int {
	var l []int
	for i, c := range cols {
		if c.Name == e.Name && (e.Op == "param" || e.Of == "" || c.Of == e.Of) {
			l = append(l, i)
		}
	}
	return l
}

// modelOwn is what an expression is alone, if its Parts have these types.
func modelOwn(e api.Expr, s api.Scope, parts string) (int, api.Errno) {
	switch e.Op {
	case "value":
		return e.Value.Type, api.OK
	case "cast":
		return e.Type, api.OK
	case "column":
		l := meant(e, s.Cols)
		if len(l) == 0 || len(l) > 1 && e.Of == "" {
			return 0, api.ErrName
		}
		return modelDeclared(s.Cols[l[0]])
	case "param":
		l := meant(e, s.Params)
		if len(l) == 0 {
			return 0, api.ErrParam
		}
		return modelDeclared(s.Params[l[0]])
	case "in":
		for _, p := range parts[1:] {
			if _, is := signed("=", parts[:1]+string(p)); !is {
				return 0, api.ErrType
			}
		}
		return api.Bool, api.OK
	}
	if typ, is := signed(e.Op, parts); is {
		return typ, api.OK
	}
	return 0, api.ErrType
}

func modelDeclared(c api.Col) (int, api.Errno) {
	if c.Type < api.BigInt || c.Type > api.Bool {
		return 0, api.ErrType
	}
	return c.Type, api.OK
}

// verdict is what Type answers.
type verdict struct {
	typ, at int
	why     api.Errno
}

func typed(e api.Expr, s api.Scope) verdict {
	typ, place, why := expr.Type(e, s)
	return verdict{typ, place, why}
}

func modelType(e api.Expr, s api.Scope) verdict {
	all, deep := behind(e)
	if len(all) > api.MaxExprs || deep > 64 {
		return verdict{0, 0, api.ErrLong}
	}
	for _, x := range all {
		if !modelCan(x) {
			return verdict{0, 0, api.ErrArg}
		}
	}
	return modelTypeOf(e, s)
}

func modelTypeOf(e api.Expr, s api.Scope) verdict {
	parts := ""
	for _, p := range e.Parts {
		v := modelTypeOf(p, s)
		if v.why != api.OK {
			return v
		}
		parts += letter(v.typ)
	}
	typ, why := modelOwn(e, s, parts)
	if why != api.OK {
		return verdict{0, e.At, why}
	}
	return verdict{typ, 0, api.OK}
}

// outcome is what Eval answers.
type outcome struct {
	v   api.Value
	why api.Errno
}

func evaluated(e api.Expr, s api.Scope, row, params api.Row) outcome {
	v, why := expr.Eval(e, s, row, params)
	return outcome{v, why}
}

func modelEval(e api.Expr, s api.Scope, row, params api.Row) outcome {
	if v := modelType(e, s); v.why != api.OK {
		return outcome{why: v.why}
	}
	if !modelFits(row, s.Cols) || !modelFits(params, s.Params) {
		return outcome{why: api.ErrArg}
	}
	return modelValue(e, s, row, params)
}

func modelFits(row api.Row, cols []api.Col) bool {
	fits := len(row) == len(cols)
	for i := 0; fits && i < len(row); i++ {
		fits = value.Check(row[i]) == api.OK && (row[i].Type == 0 || row[i].Type == cols[i].Type)
	}
	return fits
}

// bare is a value of which only that is left which its type names.
func bare(v api.Value) api.Value {
	switch v.Type {
	case api.Null:
		return api.Value{}
	case api.Text:
		v.Int = 0
	default:
		v.Text = ""
	}
	return v
}

func modelValue(e api.Expr, s api.Scope, row, params api.Row) outcome {
	var parts []outcome
	for _, p := range e.Parts {
		parts = append(parts, modelValue(p, s, row, params))
	}
	var o outcome
	switch e.Op {
	case "value":
		return outcome{bare(e.Value), api.OK}
	case "column":
		return outcome{bare(row[meant(e, s.Cols)[0]]), api.OK}
	case "param":
		return outcome{bare(params[meant(e, s.Params)[0]]), api.OK}
	case "and", "or", "in", "coalesce", "case":
		o = modelChoice(e.Op, parts)
	default:
		o = modelOfAll(e, parts)
	}
	if o.why != api.OK {
		return outcome{why: o.why}
	}
	if (e.Op == "coalesce" || e.Op == "case") && modelTypeOf(e, s).typ == api.Dec {
		o.v, o.why = value.Cast(o.v, api.Dec)
	}
	return o
}

// modelChoice is what an Op comes to that takes errors only of what it needs.
func modelChoice(o string, parts []outcome) outcome {
	a, b := parts[0], parts[1]
	if a.why != api.OK {
		return a
	}
	switch o {
	case "in":
		return modelIn(a, parts[1:])
	case "case":
		if a.v == boolean(1) {
			return b
		}
		return parts[2]
	case "coalesce":
		if a.v == null() {
			return b
		}
		return a
	}
	if o == "and" && a.v == boolean(0) || o == "or" && a.v == boolean(1) {
		return a
	}
	if b.why != api.OK {
		return b
	}
	both := value.And
	if o == "or" {
		both = value.Or
	}
	v, why := both(a.v, b.v)
	return outcome{v, why}
}

func modelIn(a outcome, others []outcome) outcome {
	if a.v == null() {
		return outcome{}
	}
	unknown := false
	for _, p := range others {
		if p.why != api.OK {
			return p
		}
		if p.v == null() {
			unknown = true
		} else if is, _ := value.Test("=", a.v, p.v); is == boolean(1) {
			return outcome{v: is}
		}
	}
	if unknown {
		return outcome{}
	}
	return outcome{v: boolean(0)}
}

// modelOfAll is what an Op comes to that needs all its Parts.
func modelOfAll(e api.Expr, parts []outcome) outcome {
	oneNull := false
	var l [3]api.Value
	for i, p := range parts {
		if p.why != api.OK {
			return p
		}
		oneNull = oneNull || p.v == null()
		l[i] = p.v
	}
	var v api.Value
	var why api.Errno
	switch {
	case e.Op == "is null":
		v = boolean(0)
		if oneNull {
			v = boolean(1)
		}
	case oneNull:
	case e.Op == "not":
		v, why = value.Not(l[0])
	case e.Op == "neg":
		v, why = value.Neg(l[0])
	case e.Op == "cast":
		v, why = value.Cast(l[0], e.Type)
	case e.Op == "||":
		v = text(l[0].Text + l[1].Text)
		why = value.Check(v)
	case e.Op == "like":
		is, w := value.Like(l[0].Text, l[1].Text)
		v, why = boolean(0), w
		if is {
			v = boolean(1)
		}
	case e.Op == "length":
		v = num(int64(utf8.RuneCountInString(l[0].Text)))
	case e.Op == "substr":
		v = text(modelSubstr(l[0].Text, l[1].Int, l[2].Int))
	case strings.Contains("+-*/", e.Op):
		v, why = value.Reckon(e.Op, l[0], l[1])
	default:
		v, why = value.Test(e.Op, l[0], l[1])
	}
	return outcome{v, why}
}

// modelSubstr takes a character, if its number is one that is asked for.
func modelSubstr(s string, from, many int64) string {
	t := ""
	if from < 1 {
		from = 1
	}
	for i, r := range []rune(s) {
		if int64(i)+1 >= from && int64(len([]rune(t))) < many {
			t += string(r)
		}
	}
	return t
}

// What the tests go through.

// scope has columns of all types, names that are there twice, and a parameter that is there twice.
func scope() api.Scope {
	return api.Scope{
		Cols: []api.Col{
			{Of: "t", Name: "i", Type: api.BigInt}, {Of: "t", Name: "d", Type: api.Dec}, {Of: "t", Name: "s", Type: api.Text}, {Of: "t", Name: "b", Type: api.Bool},
			{Of: "u", Name: "i", Type: api.Dec}, {Of: "u", Name: "j", Type: api.BigInt}, {Of: "u", Name: "j", Type: api.Text}, {Of: "u", Name: "c", Type: api.Bool},
			{Of: "u", Name: "none", Type: 0}, {Of: "u", Name: "more", Type: 5},
		},
		Params: []api.Col{{Name: "p", Type: api.BigInt}, {Name: "q", Type: api.Text}, {Name: "p", Type: api.Dec}, {Name: "c", Type: api.Bool}, {Of: "t", Name: "none", Type: -1}, {Name: "d", Type: api.Dec}},
	}
}

func edges(typ int) []api.Value {
	switch typ {
	case api.BigInt:
		return []api.Value{num(0), num(1), num(-1), num(2), num(3), num(math.MaxInt64), num(math.MinInt64), num(922337203685477)}
	case api.Dec:
		return []api.Value{dec(0), dec(1), dec(10000), dec(15000), dec(-10000), dec(20000), dec(math.MaxInt64), dec(math.MinInt64)}
	case api.Text:
		return []api.Value{text(""), text("a"), text("Größe"), text("%ß_"), text("1"), text("-2.5"), text("TRUE"), text("\\"), text("日本語\U0001f600"), text(strings.Repeat("é", 2048))}
	case api.Bool:
		return []api.Value{boolean(0), boolean(1)}
	}
	return []api.Value{null()}
}

// pick is one of the values of a type, or NULL.
func pick(r *rand.Rand, typ int) api.Value {
	if r.Intn(6) == 0 {
		return null()
	}
	l := edges(typ)
	return l[r.Intn(len(l))]
}

// rowOf is values of columns, or parameters.
func rowOf(r *rand.Rand, cols []api.Col) api.Row {
	row := api.Row{}
	for _, c := range cols {
		row = append(row, pick(r, c.Type))
	}
	return row
}

// maker makes expressions at random, each of them at a place of its own.
type maker struct {
	*rand.Rand
	astray int // one of how many has not the type that is asked for
	places int
}

func (m *maker) make(typ, deep int) api.Expr {
	if m.Intn(m.astray) == 0 {
		typ = m.Intn(5)
	}
	e := m.leaf(typ)
	if deep > 1 && m.Intn(4) > 0 {
		e = m.inner(typ, deep-1)
	}
	m.places++
	e.At = m.places
	return e
}

func (m *maker) leaf(typ int) api.Expr {
	names := []string{"none more x", "t.i u.j", "d u.i u.i", "s s s u.j", "b c t.b u.c"}
	params := []string{"none x", "p", "d", "q", "c"}
	switch l := strings.Fields(names[typ]); m.Intn(3) {
	case 0:
		if typ != 0 || m.Intn(m.astray) == 0 {
			return column(l[m.Intn(len(l))])
		}
	case 1:
		if l := strings.Fields(params[typ]); typ != 0 || m.Intn(m.astray) == 0 {
			return param(l[m.Intn(len(l))])
		}
	}
	return lit(pick(m.Rand, typ))
}

// inner is an expression that has the type by a signature, of all that have it.
func (m *maker) inner(typ, deep int) api.Expr {
	if m.Intn(10) == 0 && typ != 0 {
		return cast(typ, m.make(m.Intn(5), deep))
	}
	if typ == api.Bool && m.Intn(8) == 0 {
		first := 1 + m.Intn(4)
		l := []api.Expr{m.make(first, deep)}
		for range 1 + m.Intn(4) {
			l = append(l, m.make(first, deep))
		}
		return op("in", l...)
	}
	type choice struct{ o, parts string }
	var l []choice
	for _, o := range ops() {
		for _, s := range signatures(o) {
			if parts, to, _ := strings.Cut(s, ">"); to == letter(typ) {
				l = append(l, choice{o, parts})
			}
		}
	}
	if len(l) == 0 {
		return op("coalesce", m.make(0, deep), m.make(0, deep))
	}
	c := l[m.Intn(len(l))]
	e := op(c.o)
	for i := range c.parts {
		e.Parts = append(e.Parts, m.make(strings.IndexByte("NIDTB", c.parts[i]), deep))
	}
	return e
}

// show writes an expression down for a test that fails.
func show(e api.Expr) string {
	var l []string
	for _, p := range e.Parts {
		l = append(l, show(p))
	}
	s := fmt.Sprintf("%s@%d", e.Op, e.At)
	switch e.Op {
	case "value":
		v, _ := value.Print(e.Value)
		if len(v) > 40 {
			v = v[:40]
		}
		s = v
	case "column":
		s = e.Of + "." + e.Name
	case "param":
		s = ":" + e.Name
	case "cast":
		s += fmt.Sprint(" to ", e.Type)
	}
	if len(l) == 0 {
		return s
	}
	return s + "(" + strings.Join(l, ", ") + ")"
}

// agrees holds all that is reckoned of an expression against the model.
func agrees(t *testing.T, e api.Expr, s api.Scope, row, params api.Row) {
	t.Helper()
	want := modelType(e, s)
	if got := typed(e, s); got != want {
		t.Fatalf("Type of %s: %v, not %v", show(e), got, want)
	}
	o := modelEval(e, s, row, params)
	if got := evaluated(e, s, row, params); got != o {
		t.Fatalf("Eval of %s, %v, %v: %v, not %v", show(e), row, params, got, o)
	}
	holds, why := o.v == boolean(1), o.why
	if why == api.OK && want.typ != api.Bool && want.typ != api.Null {
		holds, why = false, api.ErrType
	}
	if got, w := expr.Holds(e, s, row, params); got != holds || w != why {
		t.Fatalf("Holds of %s, %v, %v: %v %v, not %v %v", show(e), row, params, got, w, holds, why)
	}
}

// P7.1, P7.2, P7.3: expressions of all kinds, most of them right, some astray in one place or in several, are as the words have them.
func TestAgreesWithTheModel(t *testing.T) {
	s := scope()
	told := map[api.Errno]int{}
	for seed := range int64(4) {
		m := &maker{Rand: rand.New(rand.NewSource(seed)), astray: []int{1000000, 200, 40, 10}[seed]}
		for range 20000 {
			m.places = 0
			e := m.make(m.Intn(5), 1+m.Intn(5))
			row, params := rowOf(m.Rand, s.Cols), rowOf(m.Rand, s.Params)
			agrees(t, e, s, row, params)
			_, why := expr.Eval(e, s, row, params)
			told[why]++
		}
	}
	for _, why := range []api.Errno{api.OK, api.ErrLong, api.ErrForm, api.ErrType, api.ErrName, api.ErrParam, api.ErrOver, api.ErrZero} {
		if told[why] < 20 {
			t.Errorf("error %d came up %d times alone: what is made at random does not reach it", why, told[why])
		}
	}
}
