package expr_test

import (
	"math"
	"strings"
	"testing"

	"lockstep/api"
	"lockstep/expr"
)

// comes asks for what an expression comes to that names nothing.
func comes(t *testing.T, e api.Expr, v api.Value) {
	t.Helper()
	if got := evaluated(e, api.Scope{}, nil, nil); got != (outcome{v, api.OK}) {
		t.Errorf("Eval of %s: %v, not %v", show(e), got, v)
	}
}

// errs asks for the error of an expression in which nothing is wrong but what it comes to.
func errs(t *testing.T, e api.Expr, why api.Errno) {
	t.Helper()
	if got := typed(e, api.Scope{}); got.why != api.OK {
		t.Errorf("Type of %s: %v", show(e), got)
	}
	if got := evaluated(e, api.Scope{}, nil, nil); got != (outcome{why: why}) {
		t.Errorf("Eval of %s: %v, not %v", show(e), got, why)
	}
	if holds, got := expr.Holds(e, api.Scope{}, nil, nil); holds || got != why {
		t.Errorf("Holds of %s: %v %v, not %v", show(e), holds, got, why)
	}
}

// P7.2: a row has as many values as there are columns, params as many as parameters, each of them one that can be, NULL or of its column's type; also those that nobody names.
func TestValuesThatAreHandedIn(t *testing.T) {
	s := api.Scope{Cols: []api.Col{{Of: "t", Name: "i", Type: api.BigInt}, {Of: "t", Name: "s", Type: api.Text}, {Of: "t", Name: "none", Type: 0}}, Params: []api.Col{{Name: "p", Type: api.Dec}, {Name: "b", Type: api.Bool}}}
	row, params := api.Row{num(1), text("a"), null()}, api.Row{dec(2), boolean(1)}
	refused := func(row, params api.Row) {
		t.Helper()
		for _, e := range []api.Expr{lit(num(1)), lit(boolean(1)), zero(), column("i"), param("p")} {
			if got := evaluated(e, s, row, params); got != (outcome{why: api.ErrArg}) {
				t.Errorf("Eval of %s, %v, %v: %v", show(e), row, params, got)
			}
			if holds, why := expr.Holds(e, s, row, params); holds || why != api.ErrArg {
				t.Errorf("Holds of %s, %v, %v: %v %v", show(e), row, params, holds, why)
			}
		}
	}
	taken := func(row, params api.Row) {
		t.Helper()
		for _, e := range []api.Expr{lit(num(1)), column("i"), column("s"), param("p"), param("b")} {
			if got, want := evaluated(e, s, row, params), modelEval(e, s, row, params); got != want || got.why != api.OK {
				t.Errorf("Eval of %s, %v, %v: %v, not %v", show(e), row, params, got, want)
			}
		}
	}
	taken(row, params)
	for n := range 6 {
		long := append(append(api.Row{}, row...), null(), null())
		if n != 3 {
			refused(long[:min(n, 5)], params)
		}
		wide := append(append(api.Row{}, params...), null(), null(), null())
		if n != 2 {
			refused(row, wide[:min(n, 5)])
		}
	}
	refused(nil, params)
	refused(row, nil)
	refused(params, row)
	others := []api.Value{null(), num(3), dec(3), text("b"), boolean(0), {Type: -1}, {Type: 5}, boolean(2), boolean(-1), text("\xff"), text(strings.Repeat("a", api.MaxText+1))}
	for i, c := range append(append([]api.Col{}, s.Cols...), s.Params...) {
		for k, v := range others {
			r, p := append(api.Row{}, row...), append(api.Row{}, params...)
			if i < 3 {
				r[i] = v
			} else {
				p[i-3] = v
			}
			if v.Type == api.Null || v.Type == c.Type && k < 5 {
				taken(r, p)
			} else {
				refused(r, p)
			}
		}
	}
	taken(api.Row{num(math.MinInt64), text(strings.Repeat("a", api.MaxText)), null()}, api.Row{dec(math.MaxInt64), boolean(0)})
}

// P7.2: a name means its column also where others of that name stand, and a parameter the first of its name.
func TestWhichColumn(t *testing.T) {
	s := scope()
	row := api.Row{num(1), dec(2), text("3"), boolean(0), dec(5), num(6), text("7"), boolean(1), null(), null()}
	params := api.Row{num(11), text("12"), dec(13), boolean(1), null(), dec(16)}
	for _, c := range []struct {
		e api.Expr
		v api.Value
	}{
		{column("t.i"), num(1)}, {column("d"), dec(2)}, {column("t.d"), dec(2)}, {column("s"), text("3")}, {column("b"), boolean(0)}, {column("u.i"), dec(5)}, {column("u.j"), num(6)}, {column("c"), boolean(1)},
		{param("p"), num(11)}, {param("q"), text("12")}, {param("c"), boolean(1)}, {param("d"), dec(16)},
	} {
		if got := evaluated(c.e, s, row, params); got != (outcome{c.v, api.OK}) {
			t.Errorf("Eval of %s: %v, not %v", show(c.e), got, c.v)
		}
	}
}

// P7.2: and, or stop behind what settles them, and only there; the Parts are gone through from the left.
func TestAndOr(t *testing.T) {
	yes, no, n := lit(boolean(1)), lit(boolean(0)), lit(null())
	comes(t, op("and", no, wrong()), boolean(0))
	comes(t, op("or", yes, wrong()), boolean(1))
	for _, e := range []api.Expr{op("and", yes, wrong()), op("and", n, wrong()), op("or", no, wrong()), op("or", n, wrong()), op("and", wrong(), no), op("or", wrong(), yes)} {
		errs(t, e, api.ErrZero)
	}
	over := op("=", op("+", lit(num(math.MaxInt64)), lit(num(1))), lit(num(1)))
	errs(t, op("and", wrong(), over), api.ErrZero)
	errs(t, op("and", over, wrong()), api.ErrOver)
	for _, c := range []struct {
		a, b    api.Expr
		and, or api.Value
	}{
		{yes, yes, boolean(1), boolean(1)}, {yes, no, boolean(0), boolean(1)}, {no, yes, boolean(0), boolean(1)}, {no, no, boolean(0), boolean(0)},
		{n, n, null(), null()}, {n, yes, null(), boolean(1)}, {yes, n, null(), boolean(1)}, {n, no, boolean(0), null()}, {no, n, boolean(0), null()},
	} {
		comes(t, op("and", c.a, c.b), c.and)
		comes(t, op("or", c.a, c.b), c.or)
	}
}

// P7.2: in is the or of = with each, from the left; it stops behind the first TRUE, and behind a first Part that is NULL.
func TestIn(t *testing.T) {
	one, two, n := lit(num(1)), lit(num(2)), lit(null())
	comes(t, op("in", one, two, one), boolean(1))
	comes(t, op("in", one, two, two), boolean(0))
	comes(t, op("in", one, lit(dec(10000))), boolean(1))
	comes(t, op("in", lit(dec(10000)), two, one), boolean(1))
	comes(t, op("in", two, one, n), null())
	comes(t, op("in", two, n, one), null())
	comes(t, op("in", two, n, two), boolean(1))
	comes(t, op("in", one, one, n), boolean(1))
	comes(t, op("in", n, one), null())
	comes(t, op("in", n, n), null())
	comes(t, op("in", n, one, zero()), null())
	comes(t, op("in", n, zero()), null())
	comes(t, op("in", n, one, lit(text("a")), zero()), null())
	comes(t, op("in", one, one, zero()), boolean(1))
	comes(t, op("in", one, n, one, zero()), boolean(1))
	comes(t, op("in", lit(text("a")), lit(text("b")), lit(text("a"))), boolean(1))
	comes(t, op("in", lit(boolean(0)), lit(boolean(1))), boolean(0))
	errs(t, op("in", zero(), one), api.ErrZero)
	errs(t, op("in", zero(), n), api.ErrZero)
	errs(t, op("in", one, two, zero()), api.ErrZero)
	errs(t, op("in", one, n, zero()), api.ErrZero)
	errs(t, op("in", one, zero(), one), api.ErrZero)
}

// P7.2: coalesce and case reckon no more than what they are; what they are of the type Dec is one.
func TestCoalesceAndCase(t *testing.T) {
	one, d, n, yes, no := lit(num(1)), lit(dec(15000)), lit(null()), lit(boolean(1)), lit(boolean(0))
	comes(t, op("coalesce", one, zero()), num(1))
	comes(t, op("coalesce", n, one), num(1))
	comes(t, op("coalesce", n, n), null())
	comes(t, op("coalesce", no, yes), boolean(0))
	errs(t, op("coalesce", n, zero()), api.ErrZero)
	errs(t, op("coalesce", zero(), one), api.ErrZero)
	comes(t, op("case", yes, one, zero()), num(1))
	comes(t, op("case", no, zero(), one), num(1))
	comes(t, op("case", n, zero(), one), num(1))
	errs(t, op("case", yes, zero(), one), api.ErrZero)
	errs(t, op("case", no, one, zero()), api.ErrZero)
	errs(t, op("case", n, one, zero()), api.ErrZero)
	errs(t, op("case", wrong(), one, one), api.ErrZero)

	comes(t, op("coalesce", one, d), dec(10000))
	comes(t, op("coalesce", d, one), dec(15000))
	comes(t, op("coalesce", n, d), dec(15000))
	comes(t, op("coalesce", cast(api.Dec, n), one), dec(10000))
	comes(t, op("coalesce", cast(api.BigInt, n), d), dec(15000))
	comes(t, op("coalesce", cast(api.BigInt, n), cast(api.Dec, n)), null())
	comes(t, op("coalesce", op("coalesce", n, one), op("coalesce", n, d)), dec(10000))
	comes(t, op("case", yes, one, d), dec(10000))
	comes(t, op("case", no, one, d), dec(15000))
	comes(t, op("case", no, d, one), dec(10000))
	comes(t, op("case", yes, d, one), dec(15000))
	comes(t, op("case", yes, n, d), null())
	comes(t, op("case", no, op("/", d, lit(dec(0))), one), dec(10000))
	comes(t, op("case", yes, one, op("+", one, n)), num(1))
	great := lit(num(math.MaxInt64))
	errs(t, op("coalesce", great, d), api.ErrOver)
	errs(t, op("case", no, d, great), api.ErrOver)
	comes(t, op("coalesce", great, one), num(math.MaxInt64))
	comes(t, op("coalesce", great, n), num(math.MaxInt64))
	comes(t, op("case", yes, d, great), dec(15000))
}

// P7.2: all others reckon all their Parts, from the left, also where one is NULL: the first error is told.
func TestAllPartsAreReckoned(t *testing.T) {
	over := op("neg", lit(num(math.MinInt64)))
	n := lit(null())
	for _, o := range []string{"=", "<>", "<", "<=", ">", ">=", "+", "-", "*", "/"} {
		errs(t, op(o, zero(), over), api.ErrZero)
		errs(t, op(o, over, zero()), api.ErrOver)
		errs(t, op(o, n, zero()), api.ErrZero)
		errs(t, op(o, zero(), n), api.ErrZero)
		comes(t, op(o, n, n), null())
		comes(t, op(o, lit(num(1)), n), null())
		comes(t, op(o, n, lit(num(0))), null())
	}
	errText := cast(api.Text, zero())
	for _, o := range []string{"||", "like"} {
		errs(t, op(o, n, errText), api.ErrZero)
		errs(t, op(o, errText, cast(api.Text, over)), api.ErrZero)
		comes(t, op(o, n, lit(text("a"))), null())
		comes(t, op(o, lit(text("a")), n), null())
		comes(t, op(o, n, n), null())
	}
	errs(t, op("substr", n, zero(), over), api.ErrZero)
	errs(t, op("substr", errText, over, n), api.ErrZero)
	errs(t, op("substr", n, n, over), api.ErrOver)
	errs(t, op("is null", zero()), api.ErrZero)
	errs(t, op("not", wrong()), api.ErrZero)
	errs(t, op("neg", zero()), api.ErrZero)
	errs(t, op("length", errText), api.ErrZero)
	errs(t, cast(api.Bool, over), api.ErrOver)
	comes(t, op("like", n, lit(text("\\"))), null()) // it is no pattern, but nobody asks for it
}

// P7.2: what value reckons is reckoned by it, to the ends of its numbers; its errors are told.
func TestReckoning(t *testing.T) {
	least, most, one, two := lit(num(math.MinInt64)), lit(num(math.MaxInt64)), lit(num(1)), lit(num(2))
	lowest, highest, d := lit(dec(math.MinInt64)), lit(dec(math.MaxInt64)), lit(dec(1))
	comes(t, op("+", one, lit(dec(15000))), dec(25000))
	comes(t, op("/", lit(num(7)), two), num(3))
	comes(t, op("/", lit(dec(20000)), lit(num(3))), dec(6667))
	comes(t, op("-", op("+", least, one), one), num(math.MinInt64))
	comes(t, op("+", least, most), num(-1))
	comes(t, op("-", highest, d), dec(math.MaxInt64-1))
	comes(t, op("+", lowest, highest), dec(-1))
	comes(t, op("neg", most), num(-math.MaxInt64))
	comes(t, op("neg", highest), dec(-math.MaxInt64))
	for _, e := range []api.Expr{op("+", most, one), op("-", least, one), op("*", most, two), op("neg", least), op("neg", lowest), op("/", least, lit(num(-1))), op("+", highest, d), op("-", lowest, d), op("+", most, d), op("*", highest, two), cast(api.Dec, most)} {
		errs(t, e, api.ErrOver)
	}
	comes(t, op("=", one, lit(dec(10000))), boolean(1))
	comes(t, op("<", most, highest), boolean(0))
	comes(t, op("<=", least, lowest), boolean(1))
	comes(t, op("<>", lit(text("a")), lit(text("b"))), boolean(1))
	comes(t, op(">", lit(boolean(1)), lit(boolean(0))), boolean(1))
	comes(t, op(">=", lit(text("a")), lit(text("b"))), boolean(0))
	comes(t, op("not", lit(boolean(0))), boolean(1))
	comes(t, op("not", lit(boolean(1))), boolean(0))
	comes(t, op("not", lit(null())), null())
	comes(t, op("neg", lit(null())), null())
	comes(t, op("is null", lit(null())), boolean(1))
	comes(t, op("is null", op("+", one, lit(null()))), boolean(1))
	for _, v := range []api.Value{num(0), dec(0), text(""), boolean(0)} {
		comes(t, op("is null", lit(v)), boolean(0))
	}
}

// P7.2: a cast is value's, with its errors.
func TestCastComesTo(t *testing.T) {
	for to := api.BigInt; to <= api.Bool; to++ {
		comes(t, cast(to, lit(null())), null())
		for from := api.BigInt; from <= api.Bool; from++ {
			for _, v := range edges(from) {
				agrees(t, cast(to, lit(v)), api.Scope{}, nil, nil)
			}
		}
	}
	comes(t, cast(api.BigInt, lit(dec(-19999))), num(-1))
	comes(t, cast(api.Text, lit(dec(15000))), text("1.5"))
	comes(t, cast(api.Dec, lit(text("7"))), dec(70000))
	comes(t, cast(api.Bool, lit(text("TRUE"))), boolean(1))
	errs(t, cast(api.BigInt, lit(boolean(1))), api.ErrType)
	errs(t, cast(api.Bool, lit(num(1))), api.ErrType)
	errs(t, cast(api.BigInt, lit(text("x"))), api.ErrForm)
	errs(t, cast(api.BigInt, lit(text("9223372036854775808"))), api.ErrOver)
	long := text(strings.Repeat("é", api.MaxText/2))
	comes(t, cast(api.Text, lit(long)), long)
}

// P7.2: a text of || has at most MaxText bytes.
func TestTextsBehindEachOther(t *testing.T) {
	comes(t, op("||", lit(text("Grö")), lit(text("ße"))), text("Größe"))
	comes(t, op("||", lit(text("")), lit(text(""))), text(""))
	comes(t, op("||", lit(text("a")), lit(text(""))), text("a"))
	for _, n := range []int{0, 1, 2, api.MaxText / 2, api.MaxText - 1, api.MaxText} {
		a, b := strings.Repeat("a", n), strings.Repeat("b", api.MaxText-n)
		comes(t, op("||", lit(text(a)), lit(text(b))), text(a+b))
		if n < api.MaxText-1 {
			errs(t, op("||", lit(text(a+"é")), lit(text(b[1:]))), api.ErrLong)
		}
		if n > 0 {
			errs(t, op("||", lit(text(a)), lit(text("b"+b))), api.ErrLong)
		}
	}
	most := lit(text(strings.Repeat("é", api.MaxText/2)))
	errs(t, op("||", most, most), api.ErrLong)
	errs(t, op("||", op("||", most, lit(text("a"))), zeroText()), api.ErrLong)
	errs(t, op("like", op("||", most, lit(text("a"))), lit(text("%"))), api.ErrLong)
	comes(t, op("||", most, lit(null())), null())
}

// zeroText is a text that is refused when it is reckoned.
func zeroText() api.Expr { return cast(api.Text, zero()) }

// P7.2: length counts characters, not bytes.
func TestLength(t *testing.T) {
	for s, n := range map[string]int64{"": 0, "a": 1, "é": 1, "Größe": 5, "日本語": 3, "\U0001f600\U0001f600": 2, "e\u0301": 2, "a\x00b\n": 4, "\ufffd": 1, strings.Repeat("a", api.MaxText): api.MaxText, strings.Repeat("é", api.MaxText/2): api.MaxText / 2} {
		comes(t, op("length", lit(text(s))), num(n))
	}
	comes(t, op("length", lit(null())), null())
}

// P7.2: like is value's; a pattern that is none is refused, if there is a text to hold against it.
func TestLike(t *testing.T) {
	comes(t, op("like", lit(text("Größe")), lit(text("Gr__e"))), boolean(1))
	comes(t, op("like", lit(text("Größe")), lit(text("Gr_e"))), boolean(0))
	comes(t, op("like", lit(text("100%")), lit(text("%\\%"))), boolean(1))
	comes(t, op("like", lit(text("")), lit(text(""))), boolean(1))
	errs(t, op("like", lit(text("")), lit(text("\\"))), api.ErrForm)
	errs(t, op("like", lit(text("a")), lit(text("b\\"))), api.ErrForm)
}

// P7.2: substr takes characters by their numbers, from 1: below 1 it begins at the first one, below 0 it is empty, and beyond the text's end there is nothing.
func TestSubstr(t *testing.T) {
	for _, c := range []struct {
		s          string
		from, many int64
		want       string
	}{
		{"Größe", 2, 3, "röß"}, {"Größe", 1, 5, "Größe"}, {"Größe", 1, 4, "Größ"}, {"Größe", 5, 1, "e"}, {"Größe", 5, 2, "e"}, {"Größe", 6, 1, ""}, {"Größe", 4, 1, "ß"}, {"Größe", 3, 2, "öß"},
		{"Größe", 0, 2, "Gr"}, {"Größe", -1, 2, "Gr"}, {"Größe", -9, 3, "Grö"}, {"Größe", 2, 0, ""}, {"Größe", 2, -1, ""}, {"Größe", 0, 0, ""}, {"Größe", 0, -1, ""}, {"Größe", -5, -5, ""},
		{"abc", math.MinInt64, math.MaxInt64, "abc"}, {"abc", math.MaxInt64, math.MaxInt64, ""}, {"abc", 2, math.MaxInt64, "bc"}, {"abc", 3, math.MaxInt64, "c"}, {"abc", 1, math.MinInt64, ""}, {"abc", math.MinInt64, math.MinInt64, ""}, {"abc", math.MaxInt64, 1, ""},
		{"", 1, 1, ""}, {"", 0, 5, ""}, {"", -1, -1, ""}, {"日本語", 2, 1, "本"}, {"\U0001f600x\U0001f601", 3, 9, "\U0001f601"}, {"\U0001f600x\U0001f601", 1, 1, "\U0001f600"}, {"e\u0301", 2, 1, "\u0301"},
	} {
		comes(t, op("substr", lit(text(c.s)), lit(num(c.from)), lit(num(c.many))), text(c.want))
	}
	for _, s := range []string{"", "a", "é", "aé", "日a\U0001f600é", "éééé"} {
		for from := int64(-3); from < 8; from++ {
			for many := int64(-3); many < 8; many++ {
				comes(t, op("substr", lit(text(s)), lit(num(from)), lit(num(many))), text(modelSubstr(s, from, many)))
			}
		}
	}
	full := []api.Expr{lit(text("a")), lit(num(1)), lit(num(1))}
	for k := 1; k < 8; k++ {
		l := append([]api.Expr{}, full...)
		for i := range l {
			if k>>i&1 == 1 {
				l[i] = lit(null())
			}
		}
		comes(t, op("substr", l...), null())
	}
}

// P7.3: Holds tells whether it is TRUE: not of FALSE, not of NULL, be that of the type Bool or of none; what is of another type is ErrType, also if it is NULL, but Eval's error comes first.
func TestHolds(t *testing.T) {
	for _, c := range []struct {
		e     api.Expr
		holds bool
		why   api.Errno
	}{
		{lit(boolean(1)), true, api.OK}, {lit(boolean(0)), false, api.OK}, {lit(null()), false, api.OK},
		{op("=", lit(num(1)), lit(null())), false, api.OK}, {op("=", lit(num(1)), lit(num(1))), true, api.OK}, {cast(api.Bool, lit(null())), false, api.OK}, {cast(api.Bool, lit(text("TRUE"))), true, api.OK},
		{op("neg", lit(null())), false, api.OK}, {op("coalesce", lit(null()), lit(null())), false, api.OK}, {op("coalesce", lit(null()), lit(boolean(1))), true, api.OK},
		{lit(num(1)), false, api.ErrType}, {lit(num(0)), false, api.ErrType}, {lit(dec(1)), false, api.ErrType}, {lit(text("TRUE")), false, api.ErrType}, {lit(text("")), false, api.ErrType},
		{cast(api.Text, lit(null())), false, api.ErrType}, {op("+", lit(null()), lit(null())), false, api.ErrType}, {op("length", lit(null())), false, api.ErrType},
		{zero(), false, api.ErrZero}, {op("neg", lit(num(math.MinInt64))), false, api.ErrOver}, {wrong(), false, api.ErrZero},
	} {
		if holds, why := expr.Holds(c.e, api.Scope{}, nil, nil); holds != c.holds || why != c.why {
			t.Errorf("Holds of %s: %v %v, not %v %v", show(c.e), holds, why, c.holds, c.why)
		}
	}
	for _, row := range []api.Row{nil, {num(1), num(2)}, {text("a")}, {boolean(2)}} {
		s := api.Scope{Cols: []api.Col{{Name: "b", Type: api.Bool}}}
		for _, e := range []api.Expr{column("b"), lit(num(1)), lit(boolean(1))} {
			if holds, why := expr.Holds(e, s, row, nil); holds || why != api.ErrArg {
				t.Errorf("Holds of %s, %v: %v %v", show(e), row, holds, why)
			}
		}
	}
}

// P7.2: the examples of the chapter.
func TestExamples(t *testing.T) {
	s := api.Scope{Cols: []api.Col{{Of: "t", Name: "x", Type: api.BigInt}}}
	x := column("x")
	lazy := op("case", op("=", x, lit(num(0))), lit(num(0)), op("/", lit(num(10)), x))
	list := op("in", x, lit(num(1)), lit(null()))
	for _, c := range []struct {
		e    api.Expr
		x, v api.Value
	}{
		{op("=", x, lit(null())), num(1), null()}, {list, num(1), boolean(1)}, {list, num(2), null()}, {list, null(), null()},
		{lazy, num(0), num(0)}, {lazy, num(3), num(3)}, {lazy, null(), null()},
		{op("substr", lit(text("Größe")), lit(num(2)), lit(num(3))), num(0), text("röß")}, {op("length", lit(text("é"))), num(0), num(1)}, {op("+", lit(num(1)), lit(dec(15000))), num(0), dec(25000)},
	} {
		if got := evaluated(c.e, s, api.Row{c.x}, nil); got != (outcome{c.v, api.OK}) {
			t.Errorf("Eval of %s, x %v: %v, not %v", show(c.e), c.x, got, c.v)
		}
	}
}
