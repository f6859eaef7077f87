package expr_test

import (
	"math/rand"
	"reflect"
	"slices"
	"testing"

	"lockstep/api"
	"lockstep/expr"
	"lockstep/value"
)

// P7.4: Names is the places of the columns, rising, each once, wherever and however often they are named; parameters are none.
func TestNames(t *testing.T) {
	s := scope()
	for _, c := range []struct {
		e    api.Expr
		want []int
	}{
		{lit(num(1)), nil}, {param("p"), nil}, {op("||", param("q"), lit(text("s"))), nil},
		{column("s"), []int{2}}, {column("t.i"), []int{0}}, {column("u.i"), []int{4}}, {column("u.j"), []int{5}}, {column("c"), []int{7}},
		{op("+", column("t.i"), column("t.i")), []int{0}}, {op("+", column("u.i"), column("t.i")), []int{0, 4}}, {op("=", column("d"), column("t.d")), []int{1}},
		{op("in", column("u.j"), column("d"), column("t.i"), column("u.i"), column("u.j"), column("d")), []int{0, 1, 4, 5}},
		{op("and", op("not", column("c")), op("like", column("s"), column("s"))), []int{2, 7}},
		{op("case", lit(boolean(1)), lit(num(1)), op("length", column("s"))), []int{2}}, // also if it is not needed
		{op("coalesce", cast(api.Text, column("b")), param("q")), []int{3}},
	} {
		if l, why := expr.Names(c.e, s); !slices.Equal(l, c.want) || why != api.OK {
			t.Errorf("Names of %s: %v %v, not %v", show(c.e), l, why, c.want)
		}
	}
	refuses(t, op("is null", at(4, column("i"))), s, 4, api.ErrName)
}

// P7.4: Names of what is made at random is what a plain look at all its columns is.
func TestNamesAtRandom(t *testing.T) {
	s := scope()
	m := &maker{Rand: rand.New(rand.NewSource(5)), astray: 60}
	for range 5000 {
		e := m.make(m.Intn(5), 1+m.Intn(5))
		var want []int
		all, _ := behind(e)
		for place := range s.Cols {
			if slices.ContainsFunc(all, func(x api.Expr) bool {
				return x.Op == "column" && len(meant(x, s.Cols)) > 0 && meant(x, s.Cols)[0] == place
			}) {
				want = append(want, place)
			}
		}
		v := modelType(e, s)
		if v.why != api.OK {
			want = nil
		}
		if l, why := expr.Names(e, s); !slices.Equal(l, want) || why != v.why {
			t.Fatalf("Names of %s: %v %v, not %v %v", show(e), l, why, want, v.why)
		}
	}
}

// P7.4: Same does not look at At, at any depth, nor at what plays no part (with which TestWhatPlaysNoPart fills it in).
func TestSameWherever(t *testing.T) {
	m := &maker{Rand: rand.New(rand.NewSource(6)), astray: 20}
	for range 3000 {
		e := m.make(m.Intn(5), 1+m.Intn(5))
		moved := elsewhere(e, 100)
		if !expr.Same(e, moved) || !expr.Same(moved, e) || !expr.Same(e, e) || !expr.Same(littered(e, 1), moved) {
			t.Fatalf("Same of %s, elsewhere", show(e))
		}
	}
	if !expr.Same(api.Expr{}, api.Expr{At: 3}) {
		t.Error("the zero expression is not itself")
	}
}

func elsewhere(e api.Expr, by int) api.Expr {
	e.At += by
	e.Parts = slices.Clone(e.Parts)
	for i, p := range e.Parts {
		e.Parts[i] = elsewhere(p, by+1)
	}
	return e
}

// P7.4: what plays a part counts: the Op, a Value (by value.Same), a column's Name and Of, a parameter's Name, a cast's Type, each Part.
func TestSameTellsApart(t *testing.T) {
	differ := []api.Expr{
		{}, lit(null()), lit(num(1)), lit(dec(10000)), lit(num(10000)), lit(text("")), lit(text("1")), lit(boolean(1)), lit(boolean(0)), lit(boolean(2)), lit(api.Value{Type: 5}), lit(api.Value{Type: 5, Int: 1}), lit(api.Value{Type: 5, Text: "a"}),
		column("a"), column("b"), column("t.a"), column("u.a"), column(""), column("t."), param("a"), param("b"), param(""),
		cast(api.BigInt, lit(null())), cast(api.Text, lit(null())), cast(api.Text, lit(num(1))), cast(0, lit(null())), cast(9, lit(null())),
		op("foo"), op("bar"), op("foo", lit(null())), op("foo", lit(num(1))), op("and"), op("and", column("a")), op("not", column("a")), op("neg", column("a")),
		op("and", column("a"), column("b")), op("and", column("b"), column("a")), op("or", column("a"), column("b")), op("and", column("a"), column("b"), column("b")),
		op("in", column("a"), column("b")), op("in", column("a"), column("b"), column("b")),
		op("and", column("a"), op("and", column("a"), column("b"))), op("and", op("and", column("a"), column("b")), column("a")), op("and", column("a"), op("and", column("a"), column("a"))),
	}
	for i, a := range differ {
		for k, b := range differ {
			if expr.Same(a, b) != (i == k) {
				t.Errorf("Same of %s, %s: %v", show(a), show(b), i != k)
			}
			if expr.Same(op("not", a), op("not", b)) != (i == k) || expr.Same(op("in", lit(null()), lit(null()), a), op("in", lit(null()), lit(null()), b)) != (i == k) {
				t.Errorf("Same of what %s, %s are in: %v", show(a), show(b), i != k)
			}
		}
	}
	all := differ[1:13]
	for _, a := range all {
		for _, b := range all {
			if expr.Same(a, b) != value.Same(a.Value, b.Value) {
				t.Errorf("Same of %v, %v", a.Value, b.Value)
			}
		}
	}
}

// P7.4: how many Parts there are counts, whatever the Op; of an Op that has none, which they are plays no part.
func TestSameCountsParts(t *testing.T) {
	for _, o := range append(ops(), "in", "foo", "") {
		for n := range 5 {
			for m := range 5 {
				a, b := op(o), op(o)
				for range n {
					a.Parts = append(a.Parts, lit(null()))
				}
				for range m {
					b.Parts = append(b.Parts, lit(null()))
				}
				if expr.Same(a, b) != (n == m) {
					t.Errorf("Same of %s with %d and %d Parts: %v", o, n, m, n != m)
				}
			}
		}
		one, other := op(o, lit(num(1))), op(o, lit(num(2)))
		if expr.Same(one, other) != slices.Contains(opsOf(0), o) {
			t.Errorf("Same of %s with other Parts", o)
		}
	}
	if !expr.Same(op("foo"), api.Expr{Op: "foo", Parts: []api.Expr{}}) {
		t.Error("no Parts are not alike")
	}
}

// P7.4: Fixed is whether no column is named, at any depth, whatever else an expression is: of each Op, of those that are none, of what can't be, of what is too much.
func TestFixed(t *testing.T) {
	for _, o := range append(ops(), "in", "foo", "", "COLUMN", "columns") {
		for n := range 4 {
			e := op(o)
			for range n {
				e.Parts = append(e.Parts, op("coalesce", lit(null()), param("a")))
			}
			if expr.Fixed(e) != (o != "column") {
				t.Errorf("Fixed of %s with %d Parts: %v", o, n, o == "column")
			}
			for i := range e.Parts {
				with := elsewhere(e, 0)
				with.Parts[i].Parts[1] = column("")
				if expr.Fixed(with) {
					t.Errorf("Fixed of %s, a column in its Part %d", o, i)
				}
			}
		}
		if right := op(o); !expr.Fixed(littered(right, 1)) && o != "column" {
			t.Errorf("Fixed of %s, littered", o)
		}
	}
	if !expr.Fixed(chain(60000, lit(null()))) || expr.Fixed(chain(60000, column("a"))) || !expr.Fixed(wide(5000, lit(null()))) {
		t.Error("Fixed of what is too much")
	}
	m := &maker{Rand: rand.New(rand.NewSource(7)), astray: 20}
	for range 3000 {
		e := m.make(m.Intn(5), 1+m.Intn(4))
		all, _ := behind(e)
		if expr.Fixed(e) == slices.ContainsFunc(all, func(x api.Expr) bool { return x.Op == "column" }) {
			t.Fatalf("Fixed of %s: %v", show(e), expr.Fixed(e))
		}
	}
}

// P7.5: Parts of an and is Parts of its two, on both sides, one behind the other; of all else it alone, all that it holds with it.
func TestParts(t *testing.T) {
	a, b, c, d := at(1, lit(boolean(1))), at(2, column("t.b")), at(3, op("or", column("a"), column("b"))), at(4, op("not", op("and", lit(null()), lit(null()))))
	and := func(x, y api.Expr) api.Expr { return at(9, op("and", x, y)) }
	for _, x := range []struct {
		e    api.Expr
		want []api.Expr
	}{
		{a, []api.Expr{a}}, {c, []api.Expr{c}}, {d, []api.Expr{d}}, {api.Expr{}, []api.Expr{{}}},
		{and(a, b), []api.Expr{a, b}}, {and(b, a), []api.Expr{b, a}}, {and(a, a), []api.Expr{a, a}},
		{and(and(a, b), c), []api.Expr{a, b, c}}, {and(a, and(b, c)), []api.Expr{a, b, c}}, {and(and(a, b), and(c, d)), []api.Expr{a, b, c, d}}, {and(and(a, and(b, c)), d), []api.Expr{a, b, c, d}}, {and(a, and(and(b, c), d)), []api.Expr{a, b, c, d}},
		{op("or", and(a, b), c), []api.Expr{op("or", and(a, b), c)}}, {and(op("or", and(a, b), c), d), []api.Expr{op("or", and(a, b), c), d}},
		{op("AND", a, b), []api.Expr{op("AND", a, b)}},
		{op("and"), []api.Expr{op("and")}}, {op("and", a), []api.Expr{op("and", a)}}, {op("and", a, b, c), []api.Expr{op("and", a, b, c)}}, {and(a, op("and", and(b, c))), []api.Expr{a, op("and", and(b, c))}},
	} {
		if got := expr.Parts(x.e); !reflect.DeepEqual(got, x.want) {
			t.Errorf("Parts of %s: %v", show(x.e), got)
		}
	}
	whole := littered(and(a, b), 1)
	if got := expr.Parts(whole); !reflect.DeepEqual(got, whole.Parts) {
		t.Errorf("Parts of what is littered: %v", got)
	}
}

// P7.5: All of none is TRUE, of one that one; else and of All of all but the last one, and the last one; with nothing else in it.
func TestAll(t *testing.T) {
	a, b, c, d := at(1, lit(boolean(0))), at(2, column("t.b")), at(3, op("or", column("a"), column("b"))), at(4, op("and", lit(null()), lit(null())))
	for _, x := range []struct {
		l    []api.Expr
		want api.Expr
	}{
		{nil, lit(boolean(1))}, {[]api.Expr{}, lit(boolean(1))}, {[]api.Expr{a}, a}, {[]api.Expr{d}, d}, {[]api.Expr{{}}, api.Expr{}},
		{[]api.Expr{a, b}, op("and", a, b)}, {[]api.Expr{b, a}, op("and", b, a)}, {[]api.Expr{a, b, c}, op("and", op("and", a, b), c)},
		{[]api.Expr{a, d, c, b}, op("and", op("and", op("and", a, d), c), b)}, {[]api.Expr{d, d}, op("and", d, d)}, {[]api.Expr{lit(boolean(1)), lit(boolean(1))}, op("and", lit(boolean(1)), lit(boolean(1)))},
	} {
		if got := expr.All(x.l); !reflect.DeepEqual(got, x.want) {
			t.Errorf("All of %d: %s, not %s", len(x.l), show(got), show(x.want))
		}
	}
}

// P7.5: what is long, or deep on one side or the other, is taken apart and put together as well.
func TestManyParts(t *testing.T) {
	var l []api.Expr
	for i := range 20000 {
		l = append(l, at(i, lit(num(int64(i)))))
	}
	left := expr.All(l)
	right := l[len(l)-1]
	for i := len(l) - 2; i >= 0; i-- {
		right = op("and", l[i], right)
	}
	for _, e := range []api.Expr{left, right} {
		if got := expr.Parts(e); !reflect.DeepEqual(got, l) {
			t.Errorf("%d Parts", len(got))
		}
	}
	if expr.Same(left, right) || !expr.Same(left, expr.All(l)) || !expr.Fixed(left) {
		t.Error("what is deep on one side")
	}
}
