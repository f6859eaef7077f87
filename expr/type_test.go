package expr_test

import (
	"strings"
	"testing"

	"lockstep/api"
	"lockstep/expr"
)

// is asks for the type of an expression in which nothing is wrong.
func is(t *testing.T, e api.Expr, s api.Scope, typ int) {
	t.Helper()
	if got := typed(e, s); got != (verdict{typ, 0, api.OK}) {
		t.Errorf("Type of %s: %v, not %d", show(e), got, typ)
	}
}

// refuses asks for a fault at a place, by all that are to tell it; Eval and Holds with values that do not fit either, as Type's error comes first.
func refuses(t *testing.T, e api.Expr, s api.Scope, place int, why api.Errno) {
	t.Helper()
	if got := typed(e, s); got != (verdict{0, place, why}) {
		t.Errorf("Type of %s: %v, not %d at %d", show(e), got, why, place)
	}
	if got := evaluated(e, s, api.Row{num(1)}, nil); got != (outcome{why: why}) {
		t.Errorf("Eval of %s: %v, not %d", show(e), got, why)
	}
	if holds, got := expr.Holds(e, s, api.Row{num(1)}, nil); holds || got != why {
		t.Errorf("Holds of %s: %v %d, not %d", show(e), holds, got, why)
	}
	if l, got := expr.Names(e, s); len(l) > 0 || got != why {
		t.Errorf("Names of %s: %v %d, not %d", show(e), l, got, why)
	}
}

// fitting is n Parts with which an Op is well typed, of as many as it has; others are NULL.
func fitting(o string, n int) []api.Expr {
	var l []api.Expr
	for i := range n {
		e := lit(null())
		if s := signatures(o); len(s) > 0 && s[0][i] != '>' && !strings.Contains(s[0][:i], ">") {
			e = lit(edges(strings.IndexByte("NIDTB", s[0][i]))[0])
		}
		l = append(l, e)
	}
	return l
}

// right is an expression of an Op that can be, and in which nothing is wrong.
func right(o string) api.Expr {
	switch o {
	case "value":
		return lit(num(1))
	case "column":
		return column("s")
	case "param":
		return param("q")
	case "cast":
		return cast(api.Text, lit(num(1)))
	case "in":
		return op("in", lit(num(1)), lit(num(1)))
	}
	return op(o, fitting(o, len(strings.Split(signatures(o)[0], ">")[0]))...)
}

// P7.1: each Op has its number of Parts: with one fewer or one more, with many more, it can't be; in has two and more.
func TestNumberOfParts(t *testing.T) {
	s := scope()
	for n := range 4 {
		for _, o := range opsOf(n) {
			e := right(o)
			if len(e.Parts) != n {
				t.Fatalf("%s is made of %d Parts", o, len(e.Parts))
			}
			if got := typed(e, s); got.why != api.OK {
				t.Errorf("%s of %d Parts: %v", o, n, got)
			}
			for m := range 7 {
				e.Parts = nil
				for range m {
					e.Parts = append(e.Parts, lit(null()))
				}
				e.At = 5
				if m != n {
					refuses(t, e, s, 0, api.ErrArg)
					refuses(t, at(3, op("is null", e)), s, 0, api.ErrArg)
				} else if got := typed(e, s); got.why != api.OK {
					t.Errorf("%s of %d NULLs: %v", o, n, got)
				}
			}
		}
	}
	for m := range 8 {
		e := at(5, op("in"))
		for range m {
			e.Parts = append(e.Parts, lit(num(1)))
		}
		if m < 2 {
			refuses(t, e, s, 0, api.ErrArg)
		} else {
			is(t, e, s, api.Bool)
		}
	}
}

// P7.1: an Op that is none can't be, however near it is to one, and with however many Parts.
func TestOpThatIsNone(t *testing.T) {
	s := scope()
	for _, o := range []string{"", " ", "VALUE", "Value", "values", "AND", "and ", " or", "isnull", "is  null", "is not null", "between", "!=", "==", "=<", "=>", "<=>", "%", "^", "|", "|||", "negate", "minus", "NOT", "null", "true", "count", "star", "substring", "concat", "\x00", "é", "\xff"} {
		for m := range 4 {
			e := at(9, op(o))
			for range m {
				e.Parts = append(e.Parts, lit(null()))
			}
			refuses(t, e, s, 0, api.ErrArg)
			refuses(t, op("coalesce", lit(num(1)), e), s, 0, api.ErrArg)
		}
	}
}

// P7.1: the zero expression can't be, nor one in the zero scope that names something.
func TestNothing(t *testing.T) {
	refuses(t, api.Expr{}, api.Scope{}, 0, api.ErrArg)
	refuses(t, at(4, column("a")), api.Scope{}, 4, api.ErrName)
	refuses(t, at(4, param("a")), api.Scope{}, 4, api.ErrParam)
	is(t, lit(num(1)), api.Scope{}, api.BigInt)
}

// littered fills in all that plays no part in an expression and its Parts.
func littered(e api.Expr, n int) api.Expr {
	l := api.Expr{Op: e.Op, Value: api.Value{Type: 9 + n, Int: 7, Text: "\xff"}, Name: "i", Of: "nobody", Type: 8 + n, At: e.At}
	switch e.Op {
	case "value":
		l.Value = e.Value
		switch e.Value.Type {
		case api.Null:
			l.Value.Int, l.Value.Text = int64(n), "\xff"
		case api.Text:
			l.Value.Int = int64(n)
		default:
			l.Value.Text = strings.Repeat("\xff", 5000+n)
		}
	case "column":
		l.Name, l.Of = e.Name, e.Of
	case "param":
		l.Name = e.Name
	case "cast":
		l.Type = e.Type
	}
	for _, p := range e.Parts {
		l.Parts = append(l.Parts, littered(p, n+1))
	}
	return l
}

// P7.1, P7.2: what plays no part may be filled in with whatever it is: nothing of it is looked at, and nothing of it is answered.
func TestWhatPlaysNoPart(t *testing.T) {
	s := scope()
	row, params := api.Row{num(2), dec(15000), text("Größe"), boolean(1), dec(3), num(4), text("x"), null(), null(), null()}, api.Row{num(5), text("%"), null(), boolean(0), null(), dec(1)}
	for _, o := range append(ops(), "in") {
		for n := range 3 {
			e := right(o)
			want := evaluated(e, s, row, params)
			if got := typed(littered(e, n), s); got != typed(e, s) || got.why != api.OK {
				t.Errorf("Type of %s, littered: %v", o, got)
			}
			if got := evaluated(littered(e, n), s, row, params); got != want {
				t.Errorf("Eval of %s, littered: %v, not %v", o, got, want)
			}
			if !expr.Same(littered(e, n), e) || !expr.Same(littered(e, n), littered(e, n+1)) {
				t.Errorf("Same of %s, littered", o)
			}
		}
	}
	for i, v := range row {
		row[i] = littered(lit(v), 3).Value
	}
	for i, v := range params {
		params[i] = littered(lit(v), 3).Value
	}
	for _, e := range []api.Expr{column("t.i"), column("s"), column("b"), column("c"), column("d"), param("p"), param("q"), param("c"), param("d"), op("coalesce", column("c"), column("b")), op("case", column("b"), column("s"), column("s"))} {
		if got := evaluated(e, s, row, params); got.v != bare(got.v) || got.why != api.OK {
			t.Errorf("Eval of %s: %v: has more than its type names", show(e), got)
		}
	}
}

// chain is so many expressions in one another.
func chain(n int, inner api.Expr) api.Expr {
	for i := range n - 1 {
		inner = at(i+1, op([]string{"is null", "not"}[i%2], inner))
	}
	return inner
}

// wide is so many expressions side by side in an in, itself counted.
func wide(n int, part api.Expr) api.Expr {
	e := op("in")
	for range n - 1 {
		e.Parts = append(e.Parts, part)
	}
	return e
}

// P7.1: MaxExprs expressions and 64 in one another are allowed, one more is ErrLong.
func TestTooManyTooDeep(t *testing.T) {
	s := scope()
	is(t, wide(api.MaxExprs, lit(num(1))), s, api.Bool)
	refuses(t, wide(api.MaxExprs+1, lit(num(1))), s, 0, api.ErrLong)
	refuses(t, wide(5*api.MaxExprs, lit(num(1))), s, 0, api.ErrLong)
	is(t, chain(64, lit(null())), s, api.Bool)
	refuses(t, chain(65, lit(null())), s, 0, api.ErrLong)
	refuses(t, chain(1000, lit(null())), s, 0, api.ErrLong)
	refuses(t, chain(60000, lit(null())), s, 0, api.ErrLong)

	full := op("in", chain(64-1, lit(null())))
	for left := api.MaxExprs - 64; left > 0; {
		n := min(left, 63)
		full.Parts = append(full.Parts, chain(n, op("value")))
		left -= n
	}
	all, deep := behind(full)
	if len(all) != api.MaxExprs || deep != 64 {
		t.Fatal(len(all), deep)
	}
	is(t, full, s, api.Bool)
	more := full
	more.Parts = append(more.Parts[:len(more.Parts):len(more.Parts)], lit(null()))
	refuses(t, more, s, 0, api.ErrLong)
	deeper := full
	deeper.Parts = append([]api.Expr{op("is null", full.Parts[0])}, full.Parts[2:]...)
	refuses(t, deeper, s, 0, api.ErrLong)

	tree := lit(num(1)) // 255 expressions, 8 in one another, all of them on both sides
	for range 7 {
		tree = op("+", tree, tree)
	}
	is(t, tree, s, api.BigInt)
	is(t, op("neg", tree), s, api.BigInt)
	refuses(t, op("neg", op("neg", tree)), s, 0, api.ErrLong)
	refuses(t, op("+", tree, tree), s, 0, api.ErrLong)
	for range 50 { // as many as nobody could go through
		tree = op("+", tree, tree)
	}
	refuses(t, tree, s, 0, api.ErrLong)
}

// P7.1: what is in itself is too deep, and that is told.
func TestWhatIsInItself(t *testing.T) {
	loop := op("not", lit(null()))
	loop.Parts[0] = loop
	refuses(t, loop, scope(), 0, api.ErrLong)
	both := op("and", lit(null()), lit(null()))
	both.Parts[0], both.Parts[1] = both, both
	refuses(t, both, scope(), 0, api.ErrLong)
}

// P7.1: what is too much comes first, whether what else can't be stands ahead of it, behind it, around it, or within; that which can't be comes ahead of names and types that are wrong, wherever these stand.
func TestTooMuchComesFirst(t *testing.T) {
	s := scope()
	bad := []api.Expr{{}, op("not"), op("value", lit(null())), op("foo", lit(null())), lit(boolean(2)), lit(text("\xff")), cast(0, lit(null())), op("in", lit(null()))}
	great := []api.Expr{wide(api.MaxExprs+1, lit(num(1))), wide(api.MaxExprs, lit(num(1))), chain(65, lit(null())), chain(64, lit(null()))}
	for _, b := range bad {
		refuses(t, b, s, 0, api.ErrArg)
		for _, g := range great {
			refuses(t, op("and", b, g), s, 0, api.ErrLong)
			refuses(t, op("and", g, b), s, 0, api.ErrLong)
			refuses(t, op("foo", g), s, 0, api.ErrLong)
			refuses(t, op("not", g, b), s, 0, api.ErrLong)
			refuses(t, op("value", g), s, 0, api.ErrLong)
			refuses(t, op("column", b, g), s, 0, api.ErrLong)
		}
		refuses(t, wide(api.MaxExprs+1, b), s, 0, api.ErrLong)
		refuses(t, chain(65, b), s, 0, api.ErrLong)
		refuses(t, chain(63, b), s, 0, api.ErrArg)
		for _, w := range []api.Expr{at(2, column("x")), at(2, param("x")), at(2, op("not", lit(num(1))))} {
			refuses(t, op("and", w, b), s, 0, api.ErrArg)
			refuses(t, op("and", b, w), s, 0, api.ErrArg)
			refuses(t, op("in", w, op("is null", op("is null", b))), s, 0, api.ErrArg)
			refuses(t, wide(api.MaxExprs+1, w), s, 0, api.ErrLong)
			refuses(t, chain(65, w), s, 0, api.ErrLong)
		}
	}
}

// P7.1: a Value that can't be is ErrArg, whatever value tells of it; the greatest that can be is none.
func TestValuesThatCanNotBe(t *testing.T) {
	s := scope()
	for _, v := range []api.Value{{Type: -1}, {Type: 5}, {Type: 6, Int: 1, Text: "x"}, boolean(2), boolean(-1), text("\xff"), text("a\xc3"), text(strings.Repeat("a", api.MaxText+1)), text(strings.Repeat("a", 9000))} {
		refuses(t, at(3, lit(v)), s, 0, api.ErrArg)
		refuses(t, at(3, op("is null", at(4, lit(v)))), s, 0, api.ErrArg)
	}
	for typ := range 5 {
		for _, v := range edges(typ) {
			is(t, at(3, lit(v)), s, typ)
		}
	}
	is(t, lit(text(strings.Repeat("a", api.MaxText))), s, api.Text)
}

// P7.1: a cast is to one of the four types, of whatever it is; it has that type.
func TestCasts(t *testing.T) {
	s := scope()
	for from := range 5 {
		part := lit(edges(from)[0])
		for to := api.BigInt; to <= api.Bool; to++ {
			is(t, at(3, cast(to, part)), s, to)
		}
		for _, to := range []int{0, -1, 5, 6, 1 << 40, -1 << 40} {
			refuses(t, at(3, cast(to, part)), s, 0, api.ErrArg)
		}
	}
}

// P7.1: a name means one column: without Of there must be no other of that name, with Of it is the first.
func TestNamesOfColumns(t *testing.T) {
	s := scope()
	for name, typ := range map[string]int{"d": api.Dec, "s": api.Text, "b": api.Bool, "c": api.Bool, "t.i": api.BigInt, "t.d": api.Dec, "u.i": api.Dec, "u.j": api.BigInt, "u.c": api.Bool} {
		is(t, at(7, column(name)), s, typ)
	}
	for _, name := range []string{"", "x", "i", "j", "t.j", "t.c", "u.s", "v.s", "v.i", "t.", "u.", "I", "S", "T.i", "t.I", "p", "q", "s ", " s"} {
		refuses(t, at(7, column(name)), s, 7, api.ErrName)
		refuses(t, at(1, op("is null", at(-7, column(name)))), s, -7, api.ErrName)
	}
	for _, e := range []api.Expr{{Op: "column", Name: "s", Of: "v"}, {Op: "column", Name: "d", Of: "T"}, {Op: "column", Name: "t.s"}} {
		refuses(t, e, s, 0, api.ErrName)
	}
	empty := api.Scope{Cols: []api.Col{{Of: "t", Type: api.Text}, {Name: "a", Type: api.Bool}, {Of: "t", Name: "a", Type: api.Dec}}}
	is(t, column(""), empty, api.Text)
	is(t, column("t."), empty, api.Text)
	is(t, column("t.a"), empty, api.Dec)
	refuses(t, at(2, column("a")), empty, 2, api.ErrName) // an empty Of asks for no table, not for one of that name
}

// P7.1: a parameter is the first one of its name, whatever Of is.
func TestNamesOfParameters(t *testing.T) {
	s := scope()
	for name, typ := range map[string]int{"p": api.BigInt, "q": api.Text, "c": api.Bool, "d": api.Dec} {
		e := at(7, param(name))
		is(t, e, s, typ)
		for _, of := range []string{"t", "u", "x"} {
			e.Of = of
			is(t, e, s, typ)
		}
	}
	for _, name := range []string{"", "x", "i", "s", "t.i", "P", ":p"} {
		refuses(t, at(7, param(name)), s, 7, api.ErrParam)
		refuses(t, at(1, op("is null", at(-7, param(name)))), s, -7, api.ErrParam)
	}
}

// P7.1: a column or parameter whose Type is none is ErrType where it is named, and only there; which one is meant does not hang on its Type.
func TestColumnsOfNoType(t *testing.T) {
	for _, typ := range []int{0, -1, 5, 6, 1 << 40} {
		s := api.Scope{
			Cols:   []api.Col{{Of: "t", Name: "bad", Type: typ}, {Of: "t", Name: "bad", Type: api.Text}, {Of: "u", Name: "bad", Type: api.Dec}, {Of: "t", Name: "alone", Type: typ}, {Of: "t", Name: "good", Type: api.Text}},
			Params: []api.Col{{Name: "bad", Type: typ}, {Name: "bad", Type: api.Text}, {Name: "good", Type: api.Dec}},
		}
		refuses(t, at(7, column("alone")), s, 7, api.ErrType)
		refuses(t, at(7, column("t.bad")), s, 7, api.ErrType)
		refuses(t, at(7, column("bad")), s, 7, api.ErrName)
		refuses(t, at(7, param("bad")), s, 7, api.ErrType)
		refuses(t, at(6, op("is null", at(7, param("bad")))), s, 7, api.ErrType)
		refuses(t, at(6, op("=", at(8, column("good")), at(7, column("alone")))), s, 7, api.ErrType)
		is(t, column("good"), s, api.Text)
		is(t, column("u.bad"), s, api.Dec)
		is(t, param("good"), s, api.Dec)
	}
}

// P7.1: each Op with Parts of each type, NULL alone among them, be they values, columns, or what is cast: it has its type, or is wrong at its own place.
func TestEachOpWithEachType(t *testing.T) {
	s := scope()
	parts := []api.Expr{lit(null()), column("t.i"), lit(dec(5)), param("q"), column("b"), op("coalesce", lit(null()), lit(null())), cast(api.Dec, lit(null())), op("neg", lit(null())), op("+", lit(null()), lit(null()))}
	for _, o := range append(opsOf(1), append(opsOf(2), opsOf(3)...)...) {
		if o == "cast" {
			continue
		}
		n := len(right(o).Parts)
		for k := range power(len(parts), n) {
			e := at(40, op(o))
			for i := range n {
				e.Parts = append(e.Parts, at(i+1, parts[k/power(len(parts), i)%len(parts)]))
			}
			agrees(t, e, s, rowOfNull(s.Cols), rowOfNull(s.Params))
			if got := typed(e, s); got.why != api.OK && got != (verdict{0, 40, api.ErrType}) {
				t.Errorf("Type of %s: %v", show(e), got)
			}
		}
	}
	for k := range power(5, 4) {
		e := at(40, op("in"))
		for i := range 4 {
			e.Parts = append(e.Parts, at(i+1, parts[k/power(5, i)%5]))
		}
		agrees(t, e, s, rowOfNull(s.Cols), rowOfNull(s.Params))
	}
}

func power(n, times int) int {
	p := 1
	for range times {
		p *= n
	}
	return p
}

func rowOfNull(cols []api.Col) api.Row { return make(api.Row, len(cols)) }

// P7.1: the types of the table, written out by hand.
func TestTypesByHand(t *testing.T) {
	s := scope()
	n, i, d, x, b := lit(null()), lit(num(1)), lit(dec(5)), lit(text("a")), lit(boolean(1))
	for _, c := range []struct {
		e   api.Expr
		typ int
	}{
		{op("and", n, n), api.Bool}, {op("or", b, n), api.Bool}, {op("not", n), api.Bool},
		{op("=", n, n), api.Bool}, {op("<", i, d), api.Bool}, {op(">=", x, n), api.Bool}, {op("<>", n, b), api.Bool},
		{op("+", i, i), api.BigInt}, {op("-", i, d), api.Dec}, {op("*", d, n), api.Dec}, {op("/", n, i), api.BigInt}, {op("+", n, n), api.BigInt},
		{op("neg", i), api.BigInt}, {op("neg", d), api.Dec}, {op("neg", n), api.Null}, {op("neg", op("neg", n)), api.Null},
		{op("||", n, n), api.Text}, {op("is null", n), api.Bool}, {op("is null", d), api.Bool}, {op("like", n, x), api.Bool},
		{op("in", n, i, x, b), api.Bool}, {op("in", i, d, n, i), api.Bool}, {op("in", d, n, i), api.Bool},
		{op("length", n), api.BigInt}, {op("substr", n, n, n), api.Text}, {op("substr", x, i, n), api.Text},
		{op("coalesce", n, n), api.Null}, {op("coalesce", n, x), api.Text}, {op("coalesce", b, n), api.Bool}, {op("coalesce", i, d), api.Dec}, {op("coalesce", d, i), api.Dec}, {op("coalesce", i, i), api.BigInt},
		{op("case", n, n, n), api.Null}, {op("case", b, i, n), api.BigInt}, {op("case", b, n, d), api.Dec}, {op("case", n, d, i), api.Dec}, {op("case", n, i, d), api.Dec}, {op("case", b, x, x), api.Text},
	} {
		is(t, c.e, s, c.typ)
	}
	for _, e := range []api.Expr{
		op("and", b, i), op("or", x, b), op("not", d), op("=", i, x), op("<", b, i), op(">", x, b), op("+", x, i), op("-", b, b), op("*", n, x), op("/", x, x), op("neg", b), op("neg", x),
		op("||", i, x), op("||", x, b), op("like", x, i), op("like", b, x), op("in", i, x), op("in", i, i, i, b), op("in", x, n, i), op("length", i), op("substr", x, d, i), op("substr", x, i, d), op("substr", i, i, i), op("substr", x, x, i),
		op("coalesce", i, x), op("coalesce", b, d), op("case", i, i, i), op("case", b, x, b), op("case", x, n, n),
	} {
		refuses(t, at(40, e), s, 40, api.ErrType)
	}
}

// P7.1: of several wrong places the first is told, each expression behind its Parts, from the left: a Part's ahead of what it is in, a left one's, however deep, ahead of a right one's.
func TestFirstWrongPlace(t *testing.T) {
	s := scope()
	name, parm, typ := at(1, column("x")), at(2, param("x")), at(3, op("not", at(4, lit(num(1)))))
	is := func(part api.Expr) api.Expr { return at(5, op("is null", part)) }
	for _, c := range []struct {
		e     api.Expr
		place int
		why   api.Errno
	}{
		{op("and", name, parm), 1, api.ErrName}, {op("and", parm, name), 2, api.ErrParam},
		{op("and", typ, name), 3, api.ErrType}, {op("and", name, typ), 1, api.ErrName},
		{op("+", at(6, op("||", lit(num(1)), is(is(parm)))), name), 2, api.ErrParam},
		{op("+", at(6, op("||", lit(num(1)), is(is(lit(num(1)))))), name), 6, api.ErrType},
		{op("and", is(is(is(typ))), name), 3, api.ErrType}, {op("and", name, is(is(is(typ)))), 1, api.ErrName},
		{at(9, op("+", lit(text("a")), name)), 1, api.ErrName}, {at(9, op("+", lit(text("a")), lit(num(1)))), 9, api.ErrType},
		{at(9, op("in", lit(text("a")), lit(num(1)), parm)), 2, api.ErrParam}, {at(9, op("in", lit(text("a")), lit(num(1)), typ, name)), 3, api.ErrType},
		{at(9, op("substr", lit(num(1)), typ, parm)), 3, api.ErrType}, {at(9, op("case", lit(num(1)), lit(num(1)), name)), 1, api.ErrName},
		{at(9, op("case", lit(boolean(1)), typ, name)), 3, api.ErrType}, {at(9, op("coalesce", lit(num(1)), typ)), 3, api.ErrType},
		{at(9, op("not", at(8, op("not", at(7, op("+", lit(num(1)), lit(num(2)))))))), 8, api.ErrType},
	} {
		refuses(t, c.e, s, c.place, c.why)
	}
	same := op("and", op("not", lit(num(1))), column("x")) // places are told as they are, not held against each other
	same.Parts[0].At, same.Parts[1].At = 90, 10
	refuses(t, same, s, 90, api.ErrType)
}

// P7.1: example 1 of the chapter.
func TestExamplesOfTypes(t *testing.T) {
	s := scope()
	is(t, op("+", lit(num(1)), lit(dec(15000))), s, api.Dec)
	refuses(t, at(4, op("+", lit(text("a")), at(6, lit(num(1))))), s, 4, api.ErrType)
	is(t, op("=", column("t.i"), lit(null())), s, api.Bool)
	is(t, op("in", column("t.i"), lit(num(1)), lit(null())), s, api.Bool)
}
