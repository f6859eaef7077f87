package expr_test

import (
	"math/rand"
	"reflect"
	"slices"
	"testing"

	"lockstep/api"
	"lockstep/expr"
)

// roomy is an expression whose lists have spare room, filled in, at every depth.
func roomy(e api.Expr) api.Expr {
	l := make([]api.Expr, 0, len(e.Parts)+2)
	for _, p := range e.Parts {
		l = append(l, roomy(p))
	}
	spare := l[len(l):cap(l)]
	for i := range spare {
		spare[i] = at(77, column("spare"))
	}
	e.Parts = l
	return e
}

// untouched tells whether an expression is as roomy made it of e.
func untouched(got, e api.Expr) bool {
	spare := got.Parts[len(got.Parts):cap(got.Parts)]
	for _, x := range spare {
		if !reflect.DeepEqual(x, at(77, column("spare"))) {
			return false
		}
	}
	for i := range e.Parts {
		if !untouched(got.Parts[i], e.Parts[i]) {
			return false
		}
	}
	return len(got.Parts) == len(e.Parts) && expr.Same(got, e) && got.At == e.At
}

// smear writes over an expression's lists, their spare room too.
func smear(e api.Expr) {
	for _, p := range e.Parts {
		smear(p)
	}
	l := e.Parts[:cap(e.Parts)]
	for i := range l {
		l[i] = api.Expr{Op: "smeared"}
	}
}

// Memory: what is handed in is not changed, its spare room neither.
func TestArgumentsStay(t *testing.T) {
	m := &maker{Rand: rand.New(rand.NewSource(12)), astray: 50}
	for range 2000 {
		e := m.make(m.Intn(5), 1+m.Intn(4))
		in := roomy(e)
		s, want := scope(), scope()
		s.Cols, s.Params = s.Cols[:8], s.Params[:4]
		row, params := rowOf(m.Rand, want.Cols), rowOf(m.Rand, want.Params)
		oldRow, oldParams := slices.Clone(row), slices.Clone(params)
		expr.Type(in, s)
		expr.Eval(in, s, row[:8], params[:4])
		expr.Holds(in, s, row[:8], params[:4])
		expr.Names(in, s)
		expr.Same(in, in)
		expr.Fixed(in)
		expr.Parts(in)
		l := []api.Expr{in, in, in}
		expr.All(l[:2])
		if !untouched(in, e) || !untouched(l[0], e) || !untouched(l[1], e) || !untouched(l[2], e) {
			t.Fatalf("%s was changed", show(e))
		}
		if !slices.Equal(s.Cols[:10], want.Cols) || !slices.Equal(s.Params[:6], want.Params) || !slices.Equal(row, oldRow) || !slices.Equal(params, oldParams) {
			t.Fatalf("scope or row was changed by %s", show(e))
		}
	}
}

// Memory: what Parts and All answer shares no list, at any depth, with what was handed in, with another answer, or with another list of its own, even if the argument's share theirs.
func TestAnswersAreNew(t *testing.T) {
	want := op("or", op("not", column("b")), op("is null", lit(num(1))))
	both := roomy(op("and", want, want))
	both.Parts[1] = both.Parts[0]
	deep := op("and", both, both)

	one, other := expr.Parts(deep), expr.Parts(deep)
	for _, e := range one[:3] {
		smear(e)
	}
	if !expr.Same(one[3], want) || !expr.Same(other[0], want) || !untouched(both.Parts[0], want) {
		t.Error("Parts' lists are shared")
	}
	_ = append(one, api.Expr{})
	clear(one)
	if !expr.Same(other[3], want) {
		t.Error("Parts' answers share their list")
	}

	l := []api.Expr{both.Parts[0], both.Parts[0], both.Parts[1]}
	all, again := expr.All(l), expr.All(l)
	smear(all.Parts[0].Parts[0])
	smear(all.Parts[1])
	if !expr.Same(all.Parts[0].Parts[1], want) || !untouched(l[0], want) || !expr.Same(again, op("and", op("and", want, want), want)) {
		t.Error("All's lists are shared")
	}
	smear(all)
	if !expr.Same(again, op("and", op("and", want, want), want)) {
		t.Error("All's answers share a list")
	}
	alone := expr.All(l[:1])
	smear(alone)
	if !untouched(l[0], want) {
		t.Error("All of one shares it")
	}
	sole := expr.Parts(l[0])
	smear(sole[0])
	if !untouched(l[0], want) {
		t.Error("Parts of one shares it")
	}
}

// Memory: two answers of Names share nothing, spare room too.
func TestNamesAreNew(t *testing.T) {
	s := scope()
	e := op("in", column("u.j"), column("d"), column("t.i"), column("u.i"), column("u.j"), column("d"))
	one, _ := expr.Names(e, s)
	other, _ := expr.Names(e, s)
	one = append(one, 8)
	for i := range one[:cap(one)] {
		one[:cap(one)][i] = 9
	}
	if !slices.Equal(other, []int{0, 1, 4, 5}) {
		t.Error(other)
	}
	if again, _ := expr.Names(e, s); !slices.Equal(again, []int{0, 1, 4, 5}) {
		t.Error(again)
	}
}

// Nil and empty lists are alike, in expressions, scopes and rows.
func TestNilAndEmpty(t *testing.T) {
	e := api.Expr{Op: "value", Parts: []api.Expr{}, Value: num(1)}
	s := api.Scope{Cols: []api.Col{}, Params: []api.Col{}}
	for _, row := range []api.Row{nil, {}} {
		for _, s := range []api.Scope{s, {}} {
			if got := evaluated(e, s, row, row); got != (outcome{num(1), api.OK}) {
				t.Error(got)
			}
		}
	}
	if l := expr.Parts(e); len(l) != 1 || !expr.Same(l[0], lit(num(1))) {
		t.Error(l)
	}
}
