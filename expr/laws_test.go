package expr_test

import (
	"math/rand"
	"reflect"
	"slices"
	"testing"

	"lockstep/api"
	"lockstep/expr"
)

// P7.6: what Eval answers is NULL or of the type that Type says, with nothing else in it; beside an error nothing is answered.
func TestTyped(t *testing.T) {
	s := scope()
	m := &maker{Rand: rand.New(rand.NewSource(8)), astray: 100}
	types := map[int]int{}
	for range 40000 {
		e := m.make(m.Intn(5), 1+m.Intn(5))
		got := typed(e, s)
		v, why := expr.Eval(e, s, rowOf(m.Rand, s.Cols), rowOf(m.Rand, s.Params))
		if v.Type != api.Null && v.Type != got.typ || v != bare(v) || why != api.OK && v != null() {
			t.Fatalf("Eval of %s, whose Type is %v: %v %v", show(e), got, v, why)
		}
		types[v.Type]++
	}
	for typ := range 5 {
		if types[typ] < 1000 {
			t.Errorf("only %d of the type %d", types[typ], typ)
		}
	}
}

// P7.7: Holds of e is Holds of each of Parts(e), where none is refused.
func TestHoldsOfParts(t *testing.T) {
	s := scope()
	m := &maker{Rand: rand.New(rand.NewSource(9)), astray: 1000000}
	held := map[bool]int{}
	for range 20000 {
		e := m.make(api.Bool, 1+m.Intn(3))
		for range m.Intn(4) {
			sides := []api.Expr{e, m.make(api.Bool, 1+m.Intn(2))}
			m.Shuffle(2, func(i, k int) { sides[i], sides[k] = sides[k], sides[i] })
			e = op("and", sides...)
		}
		row, params := rowOf(m.Rand, s.Cols), rowOf(m.Rand, s.Params)
		whole, why := expr.Holds(e, s, row, params)
		each, refused := true, why != api.OK
		for _, p := range expr.Parts(e) {
			holds, why := expr.Holds(p, s, row, params)
			each, refused = each && holds, refused || why != api.OK
		}
		if refused {
			continue
		}
		if whole != each {
			t.Fatalf("%s: %v, its Parts %v", show(e), whole, each)
		}
		held[whole]++
	}
	if held[true] < 1000 || held[false] < 1000 {
		t.Error(held)
	}
}

// P7.7: Parts(All(l)) is l, if none of l is an and, and l is not empty.
func TestPartsOfAll(t *testing.T) {
	m := &maker{Rand: rand.New(rand.NewSource(10)), astray: 5}
	for n := 1; n < 400; n++ {
		var l []api.Expr
		for len(l) < n%20+1 {
			if e := m.make(m.Intn(5), 1+m.Intn(3)); e.Op != "and" {
				l = append(l, e)
			}
		}
		if got := expr.Parts(expr.All(l)); !reflect.DeepEqual(got, l) {
			t.Fatalf("Parts(All) of %d: %v", len(l), got)
		}
	}
	if got := expr.Parts(expr.All(nil)); len(got) != 1 || !expr.Same(got[0], lit(boolean(1))) {
		t.Errorf("Parts(All) of none: %v", got)
	}
}

// P7.8: what Eval answers does not hang on columns that Names does not tell: whatever else stands in these, be it NULL, nothing changes.
func TestNamesAreAll(t *testing.T) {
	s := scope()
	m := &maker{Rand: rand.New(rand.NewSource(11)), astray: 1000}
	changed := 0
	for range 20000 {
		e := m.make(m.Intn(5), 1+m.Intn(5))
		named, _ := expr.Names(e, s)
		row, params := rowOf(m.Rand, s.Cols), rowOf(m.Rand, s.Params)
		want := evaluated(e, s, row, params)
		for range 3 {
			other := rowOf(m.Rand, s.Cols)
			for _, place := range named {
				other[place] = row[place]
			}
			if !slices.Equal(row, other) {
				changed++
			}
			if got := evaluated(e, s, other, params); got != want {
				t.Fatalf("Eval of %s: of %v %v, of %v %v", show(e), row, want, other, got)
			}
		}
	}
	if changed < 10000 {
		t.Errorf("only %d rows differed", changed)
	}
}

// P7.8: Names tells no column that is not named, and each that is: a column by itself, changed, changes what it comes to.
func TestNamesAreNoMore(t *testing.T) {
	s := scope()
	row, params := rowOfNull(s.Cols), rowOfNull(s.Params)
	for _, name := range []string{"t.i", "d", "s", "b", "u.i", "u.j", "c"} {
		e := op("is null", column(name))
		named, _ := expr.Names(e, s)
		for place, c := range s.Cols {
			other := slices.Clone(row)
			other[place] = edges(c.Type)[0]
			want := boolean(1)
			if slices.Contains(named, place) {
				want = boolean(0)
			}
			if got := evaluated(e, s, other, params); c.Type > 0 && c.Type < 5 && got != (outcome{want, api.OK}) {
				t.Errorf("%s, with a value at %d: %v", name, place, got)
			}
		}
	}
}
