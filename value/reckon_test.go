package value_test

import (
	"math"
	"math/big"
	"testing"

	"lockstep/api"
	"lockstep/value"
)

func ops() []string { return []string{"+", "-", "*", "/"} }

// exact is what two numbers come to, without bounds; the second of them is not nought, if op is / .
func exact(op string, a, b *big.Rat) *big.Rat {
	switch op {
	case "+":
		return new(big.Rat).Add(a, b)
	case "-":
		return new(big.Rat).Sub(a, b)
	case "*":
		return new(big.Rat).Mul(a, b)
	}
	return new(big.Rat).Quo(a, b)
}

// nearest is the whole number that is nearest, of two that are as near the one farther from nought.
func nearest(r *big.Rat) *big.Int {
	half := big.NewRat(int64(r.Sign()), 2)
	r = new(big.Rat).Add(r, half)
	return new(big.Int).Quo(r.Num(), r.Denom())
}

// reckoned is what Reckon ought to answer of two numbers.
func reckoned(op string, a, b api.Value) (api.Value, api.Errno) {
	typ := api.BigInt
	if a.Type == api.Dec || b.Type == api.Dec {
		typ = api.Dec
		for _, v := range []api.Value{a, b} {
			if !new(big.Rat).Mul(rat(v), big.NewRat(api.Scale, 1)).Num().IsInt64() {
				return null, api.ErrOver
			}
		}
	}
	if op == "/" && b.Int == 0 {
		return null, api.ErrZero
	}
	r := exact(op, rat(a), rat(b))
	n := new(big.Int).Quo(r.Num(), r.Denom())
	if typ == api.Dec {
		n = nearest(r.Mul(r, big.NewRat(api.Scale, 1)))
	}
	if !n.IsInt64() {
		return null, api.ErrOver
	}
	return api.Value{Type: typ, Int: n.Int64()}, api.OK
}

// P1.5: numbers at all edges, held against rationals.
func TestReckonAtEdges(t *testing.T) {
	for _, op := range ops() {
		for _, a := range edgeNumbers() {
			for _, b := range edgeNumbers() {
				want, why := reckoned(op, a, b)
				if v, e := value.Reckon(op, a, b); v != want || e != why {
					t.Errorf("%v %s %v: %v %v, not %v %v", a, op, b, v, e, want, why)
				}
			}
		}
	}
}

// P1.5: many small numbers, so that each remainder comes up, halves among them.
func TestReckonSmall(t *testing.T) {
	for a := int64(-210); a <= 210; a++ {
		for _, b := range []int64{-20000, -10000, -5000, -2500, -160, -64, -32, -7, -6, -3, -2, -1, 1, 2, 3, 4, 6, 7, 9, 16, 48, 100, 625, 1250, 5000, 10000, 20000} {
			for _, op := range []string{"*", "/"} {
				for _, x := range [][2]api.Value{{num(a), num(b)}, {dec(a), dec(b)}, {dec(a * 1250), dec(b)}, {num(a), dec(b)}, {dec(a), num(b)}} {
					want, why := reckoned(op, x[0], x[1])
					if v, e := value.Reckon(op, x[0], x[1]); v != want || e != why {
						t.Errorf("%v %s %v: %v %v, not %v %v", x[0], op, x[1], v, e, want, why)
					}
				}
			}
		}
	}
}

// P1.5: what the document names by itself.
func TestReckon(t *testing.T) {
	for _, x := range []struct {
		a    api.Value
		op   string
		b    api.Value
		want api.Value
		why  api.Errno
	}{
		{num(7), "/", num(2), num(3), api.OK}, {num(-7), "/", num(2), num(-3), api.OK}, {num(7), "/", num(-2), num(-3), api.OK}, {num(7), "/", dec(20000), dec(35000), api.OK},
		{dec(10000), "/", num(3), dec(3333), api.OK}, {dec(20000), "/", num(3), dec(6667), api.OK}, {dec(-20000), "/", num(3), dec(-6667), api.OK}, {dec(1), "/", num(2), dec(1), api.OK}, {dec(-1), "/", num(2), dec(-1), api.OK},
		{dec(1), "*", dec(5000), dec(1), api.OK}, {dec(1), "*", dec(4999), dec(0), api.OK}, {dec(-1), "*", dec(5000), dec(-1), api.OK}, {dec(-1), "*", dec(4999), dec(0), api.OK},
		{num(math.MaxInt64), "+", num(1), null, api.ErrOver}, {num(math.MinInt64), "-", num(1), null, api.ErrOver}, {num(0), "-", num(math.MinInt64), null, api.ErrOver}, {num(-1), "-", num(math.MinInt64), num(math.MaxInt64), api.OK},
		{num(math.MinInt64), "*", num(-1), null, api.ErrOver}, {num(math.MinInt64), "/", num(-1), null, api.ErrOver}, {dec(math.MinInt64), "/", num(-1), null, api.ErrOver}, {num(math.MinInt64), "*", num(1), num(math.MinInt64), api.OK},
		{dec(math.MaxInt64), "+", dec(1), null, api.ErrOver}, {dec(math.MaxInt64), "*", dec(10001), null, api.ErrOver}, {dec(math.MaxInt64), "/", dec(1), null, api.ErrOver}, {dec(math.MinInt64), "*", dec(10000), dec(math.MinInt64), api.OK},
		{num(1), "/", num(0), null, api.ErrZero}, {num(0), "/", num(0), null, api.ErrZero}, {dec(1), "/", num(0), null, api.ErrZero}, {num(1), "/", dec(0), null, api.ErrZero}, {dec(math.MinInt64), "/", dec(0), null, api.ErrZero},
		{num(math.MaxInt64), "/", dec(0), null, api.ErrOver}, {num(math.MaxInt64), "*", dec(0), null, api.ErrOver}, {dec(0), "/", num(math.MinInt64), null, api.ErrOver}, {num(922337203685477), "+", dec(5807), dec(math.MaxInt64), api.OK}, {num(922337203685478), "-", dec(10000), null, api.ErrOver},
	} {
		if v, e := value.Reckon(x.op, x.a, x.b); v != x.want || e != x.why {
			t.Errorf("%v %s %v: %v %v, not %v %v", x.a, x.op, x.b, v, e, x.want, x.why)
		}
	}
}

// P1.5: NULL, whatever the other number is; and other types, also beside NULL.
func TestReckonOfOthers(t *testing.T) {
	litteredNull := api.Value{Type: api.Null, Int: 1, Text: "x"}
	for _, op := range ops() {
		for _, a := range []api.Value{null, litteredNull} {
			for _, b := range []api.Value{null, num(0), dec(0), num(math.MinInt64)} {
				if v, e := value.Reckon(op, a, b); v != null || e != api.OK {
					t.Errorf("%v %s %v: %v %v", a, op, b, v, e)
				}
				if v, e := value.Reckon(op, b, a); v != null || e != api.OK {
					t.Errorf("%v %s %v: %v %v", b, op, a, v, e)
				}
			}
		}
		for _, a := range []api.Value{text("1"), text(""), no, yes} {
			for _, b := range []api.Value{null, num(0), dec(0), text("1"), yes} {
				if v, e := value.Reckon(op, a, b); v != null || e != api.ErrType {
					t.Errorf("%v %s %v: %v %v", a, op, b, v, e)
				}
				if v, e := value.Reckon(op, b, a); v != null || e != api.ErrType {
					t.Errorf("%v %s %v: %v %v", b, op, a, v, e)
				}
			}
		}
		refusesImpossible(t, op, func(a, b api.Value) (api.Value, api.Errno) { return value.Reckon(op, a, b) })
	}
	for _, op := range []string{"", "%", "++", " +", "||", "=", "\xff"} {
		if v, e := value.Reckon(op, api.Value{Type: 9}, text("\xff")); v != null || e != api.ErrArg {
			t.Errorf("%q: %v %v", op, v, e)
		}
		if v, e := value.Reckon(op, num(1), num(1)); v != null || e != api.ErrArg {
			t.Errorf("%q: %v %v", op, v, e)
		}
	}
	if v, e := value.Reckon("+", api.Value{Type: api.BigInt, Int: 1, Text: "x"}, num(1)); v != num(2) || e != api.OK {
		t.Error(v, e)
	}
}

// P1.5: the opposite.
func TestNeg(t *testing.T) {
	for _, v := range edgeNumbers() {
		want, why := api.Value{Type: v.Type, Int: -v.Int}, api.OK
		if v.Int == math.MinInt64 {
			want, why = null, api.ErrOver
		}
		if w, e := value.Neg(v); w != want || e != why {
			t.Errorf("Neg(%v): %v %v", v, w, e)
		}
	}
	for _, v := range []api.Value{text("1"), no, yes} {
		if w, e := value.Neg(v); w != null || e != api.ErrType {
			t.Errorf("Neg(%v): %v %v", v, w, e)
		}
	}
	for _, x := range impossible() {
		if w, e := value.Neg(x.v); w != null || e != x.why {
			t.Errorf("Neg(%.40v): %v %v, not %v", x.v, w, e, x.why)
		}
	}
	if w, e := value.Neg(api.Value{Int: 5, Text: "x"}); w != null || e != api.OK {
		t.Error(w, e)
	}
	if w, e := value.Neg(api.Value{Type: api.Dec, Int: 5, Text: "x"}); w != dec(-5) || e != api.OK {
		t.Error(w, e)
	}
}

// P1.12: + and * do not hang on the order; a - b is a + Neg(b), where none is refused.
func TestLawsOfNumbers(t *testing.T) {
	l := append(edgeNumbers(), null)
	for _, a := range l {
		for _, b := range l {
			for _, op := range []string{"+", "*"} {
				v, e := value.Reckon(op, a, b)
				w, f := value.Reckon(op, b, a)
				if v != w || e != f {
					t.Errorf("%v %s %v: %v %v, turned about %v %v", a, op, b, v, e, w, f)
				}
			}
			n, e := value.Neg(b)
			v, f := value.Reckon("-", a, b)
			w, g := value.Reckon("+", a, n)
			if e == api.OK && f == api.OK && g == api.OK && v != w {
				t.Errorf("%v - %v: %v, not %v", a, b, v, w)
			}
		}
	}
}
