package value_test

import (
	"strings"
	"testing"

	"lockstep/api"
	"lockstep/value"
)

type binary func(a, b api.Value) (api.Value, api.Errno)

func testOps() []string { return []string{"=", "<>", "<", "<=", ">", ">="} }

// asked is what an op says of two values whose order is c.
func asked(op string, c int) api.Value {
	if strings.Contains(op, "=") && c == 0 || strings.Contains(op, "<") && c < 0 || strings.Contains(op, ">") && c > 0 {
		return yes
	}
	return no
}

func kind(v api.Value) int {
	if v.Type == api.Dec {
		return api.BigInt
	}
	return v.Type
}

// P1.3: any two values that can be, under each op.
func TestTest(t *testing.T) {
	l := append(possible(), littered()...)
	for _, op := range testOps() {
		for _, a := range l {
			for _, b := range l {
				want, why := null, api.OK
				switch {
				case a.Type == api.Null || b.Type == api.Null:
				case kind(a) != kind(b):
					why = api.ErrType
				case isNumber(a):
					want = asked(op, rat(a).Cmp(rat(b)))
				case a.Type == api.Text:
					want = asked(op, strings.Compare(a.Text, b.Text))
				default:
					want = asked(op, int(a.Int-b.Int))
				}
				if v, e := value.Test(op, a, b); v != want || e != why {
					t.Errorf("Test(%s, %.40v, %.40v): %v %v, not %v %v", op, a, b, v, e, want, why)
				}
			}
		}
	}
}

// P1.3: an op that is none comes first, then what can't be, a ahead of b, then types.
func TestTestRefuses(t *testing.T) {
	for _, op := range []string{"", "==", "!=", "< ", "+", "like", "=>", "\xff"} {
		if v, e := value.Test(op, api.Value{Type: 9}, text("\xff")); v != null || e != api.ErrArg {
			t.Errorf("Test(%q): %v %v", op, v, e)
		}
		if v, e := value.Test(op, num(1), num(1)); v != null || e != api.ErrArg {
			t.Errorf("Test(%q): %v %v", op, v, e)
		}
	}
	refusesImpossible(t, "Test", func(a, b api.Value) (api.Value, api.Errno) { return value.Test("<=", a, b) })
}

// refusesImpossible: Check's error of a, then of b, whatever the types are.
func refusesImpossible(t *testing.T, name string, f binary) {
	t.Helper()
	for _, x := range impossible() {
		for _, other := range []api.Value{null, num(1), text("a"), yes} {
			if v, e := f(x.v, other); v != null || e != x.why {
				t.Errorf("%s(%.40v, %v): %v %v, not %v", name, x.v, other, v, e, x.why)
			}
			if v, e := f(other, x.v); v != null || e != x.why {
				t.Errorf("%s(%v, %.40v): %v %v, not %v", name, other, x.v, v, e, x.why)
			}
		}
		for _, y := range impossible() {
			if v, e := f(x.v, y.v); v != null || e != x.why {
				t.Errorf("%s(%.40v, %.40v): %v %v, not %v", name, x.v, y.v, v, e, x.why)
			}
		}
	}
}

// P1.4: the tables of And, Or and Not.
func TestTruths(t *testing.T) {
	litteredNull := api.Value{Type: api.Null, Int: 1, Text: "x"}
	for _, x := range []struct{ a, b, and, or api.Value }{
		{yes, yes, yes, yes}, {yes, no, no, yes}, {yes, null, null, yes}, {no, yes, no, yes}, {no, no, no, no}, {no, null, no, null}, {null, yes, null, yes}, {null, no, no, null}, {null, null, null, null},
		{litteredNull, yes, null, yes}, {no, litteredNull, no, null}, {litteredNull, litteredNull, null, null},
		{api.Value{Type: api.Bool, Int: 1, Text: "x"}, api.Value{Type: api.Bool, Text: "\xff"}, no, yes},
	} {
		if v, e := value.And(x.a, x.b); v != x.and || e != api.OK {
			t.Errorf("And(%v, %v): %v %v", x.a, x.b, v, e)
		}
		if v, e := value.Or(x.a, x.b); v != x.or || e != api.OK {
			t.Errorf("Or(%v, %v): %v %v", x.a, x.b, v, e)
		}
	}
	for _, x := range [][2]api.Value{{yes, no}, {no, yes}, {null, null}, {litteredNull, null}, {{Type: api.Bool, Int: 1, Text: "x"}, no}} {
		if v, e := value.Not(x[0]); v != x[1] || e != api.OK {
			t.Errorf("Not(%v): %v %v", x[0], v, e)
		}
	}
}

// P1.4: other types are refused, even where the other truth settles it; behind what can't be.
func TestTruthsRefuse(t *testing.T) {
	for _, v := range []api.Value{num(0), num(1), dec(0), dec(1), text(""), text("TRUE")} {
		for _, other := range []api.Value{null, no, yes, num(1)} {
			for name, f := range map[string]binary{"And": value.And, "Or": value.Or} {
				if w, e := f(v, other); w != null || e != api.ErrType {
					t.Errorf("%s(%v, %v): %v %v", name, v, other, w, e)
				}
				if w, e := f(other, v); w != null || e != api.ErrType {
					t.Errorf("%s(%v, %v): %v %v", name, other, v, w, e)
				}
			}
		}
		if w, e := value.Not(v); w != null || e != api.ErrType {
			t.Errorf("Not(%v): %v %v", v, w, e)
		}
	}
	refusesImpossible(t, "And", value.And)
	refusesImpossible(t, "Or", value.Or)
	for _, x := range impossible() {
		if w, e := value.Not(x.v); w != null || e != x.why {
			t.Errorf("Not(%.40v): %v %v, not %v", x.v, w, e, x.why)
		}
	}
}

// P1.12: And and Or hang neither on the order nor on brackets; Not of And is Or of Nots.
func TestLawsOfTruths(t *testing.T) {
	all := []api.Value{null, no, yes}
	and := func(a, b api.Value) api.Value { v, _ := value.And(a, b); return v }
	or := func(a, b api.Value) api.Value { v, _ := value.Or(a, b); return v }
	not := func(a api.Value) api.Value { v, _ := value.Not(a); return v }
	for _, a := range all {
		for _, b := range all {
			if and(a, b) != and(b, a) || or(a, b) != or(b, a) {
				t.Error("hangs on the order", a, b)
			}
			if not(and(a, b)) != or(not(a), not(b)) || not(or(a, b)) != and(not(a), not(b)) {
				t.Error("Not of And is not Or of Nots", a, b)
			}
			for _, c := range all {
				if and(and(a, b), c) != and(a, and(b, c)) || or(or(a, b), c) != or(a, or(b, c)) {
					t.Error("hangs on brackets", a, b, c)
				}
			}
		}
	}
}
