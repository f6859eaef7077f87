package wide_test

import (
	"math"
	"math/big"
	"math/rand"
	"testing"

	"lockstep/api"
	"lockstep/wide"
)

// wideOf is a number of 128 bits, made of its upper and lower halves.
func wideOf(n *big.Int) wide.Number {
	upper, lower := new(big.Int).DivMod(n, new(big.Int).Lsh(big.NewInt(1), 62), new(big.Int))
	return wide.Of(upper.Int64()).Times(1 << 62).Plus(wide.Of(lower.Int64()))
}

// same: a number is that which is meant; told by the pieces of 48 bits that it is cut into.
func same(t *testing.T, got wide.Number, want *big.Int, what ...any) {
	t.Helper()
	first, second := got.Cut()
	n := new(big.Int).Lsh(big.NewInt(first), 48)
	n.Add(n, big.NewInt(second))
	if n.Cmp(want) != 0 || second < 0 || second >= 1<<48 || got.Order(wideOf(want)) != 0 {
		t.Errorf("%v (%d, %d), not %v, of %v", n, first, second, want, what)
	}
}

// bigs are numbers below 2^104, on both sides of nought, around the powers of two, and at random.
func bigs(rnd *rand.Rand) []*big.Int {
	l := []*big.Int{big.NewInt(0)}
	for _, bits := range []uint{0, 1, 15, 16, 47, 48, 49, 62, 63, 64, 65, 96, 103} {
		for d := int64(-1); d <= 1; d++ {
			n := new(big.Int).Lsh(big.NewInt(1), bits)
			n.Add(n, big.NewInt(d))
			l = append(l, n, new(big.Int).Neg(n))
		}
	}
	for range 60 {
		n := new(big.Int).Rand(rnd, new(big.Int).Lsh(big.NewInt(1), uint(1+rnd.Intn(103))))
		l = append(l, n, new(big.Int).Neg(n))
	}
	return l
}

// nearest is a / b, of two that are as near the one farther from nought.
func nearest(a, b *big.Int) *big.Int {
	q := new(big.Int).Mul(new(big.Int).Abs(a), big.NewInt(2))
	q.Add(q, b).Div(q, new(big.Int).Mul(b, big.NewInt(2)))
	return q.Mul(q, big.NewInt(int64(a.Sign())))
}

// Sums and the order, of each two.
func TestPlusOrder(t *testing.T) {
	l := bigs(rand.New(rand.NewSource(1)))
	for _, a := range l {
		same(t, wideOf(a), a, "itself")
		for _, b := range l {
			same(t, wideOf(a).Plus(wideOf(b)), new(big.Int).Add(a, b), a, "+", b)
			if got, want := wideOf(a).Order(wideOf(b)), a.Cmp(b); got != want {
				t.Errorf("%v against %v: %d", a, b, got)
			}
			if (wideOf(a) == wideOf(b)) != (a.Cmp(b) == 0) {
				t.Errorf("%v and %v as structs", a, b)
			}
		}
	}
}

// Products and quotients, also by numbers of 64 bits.
func TestTimesBy(t *testing.T) {
	rnd := rand.New(rand.NewSource(2))
	l := bigs(rnd)
	factors := []uint64{1, 2, 3, 7, 10000, 20000, 1 << 39, 1<<40 - 1, 1 << 40, 1 << 48, 1<<63 - 1, 1 << 63, 1<<63 + 1, 1<<64 - 1}
	for range 40 {
		factors = append(factors, rnd.Uint64()>>uint(rnd.Intn(64))|1)
	}
	for _, a := range l {
		for _, f := range factors {
			b := new(big.Int).SetUint64(f)
			if p := new(big.Int).Mul(a, b); p.BitLen() < 111 {
				same(t, wideOf(a).Times(f), p, a, "*", f)
			}
			same(t, wideOf(a).By(f), nearest(a, b), a, "/", f)
			// A half away from a whole quotient, and just beside it.
			for d := int64(-1); d <= 1; d++ {
				h := new(big.Int).Add(new(big.Int).Rsh(b, 1), big.NewInt(d))
				h.Add(h, new(big.Int).Mul(b, big.NewInt(rnd.Int63n(1000)-500)))
				same(t, wideOf(h).By(f), nearest(h, b), h, "/", f)
			}
		}
		same(t, wideOf(a).Times(0), big.NewInt(0), a, "* 0")
	}
}

// Values of a type: the last number inside, the first outside, on both sides.
func TestAs(t *testing.T) {
	for _, typ := range []int{api.BigInt, api.Dec} {
		for _, a := range bigs(rand.New(rand.NewSource(3))) {
			want, why := api.Value{}, api.ErrOver
			if a.IsInt64() {
				want, why = api.Value{Type: typ, Int: a.Int64()}, api.OK
			}
			if v, got := wideOf(a).As(typ); v != want || got != why {
				t.Errorf("%v: %v %v, not %v %v", a, v, got, want, why)
			}
		}
	}
}

// Means, which are ten-thousandths, of as many values as there may be.
func TestMean(t *testing.T) {
	for _, x := range []struct {
		sum  int64
		typ  int
		many int
		want int64
		why  api.Errno
	}{
		{3, api.BigInt, 2, 15000, api.OK}, {-3, api.BigInt, 2, -15000, api.OK},
		{1, api.BigInt, 20000, 1, api.OK}, {-1, api.BigInt, 20000, -1, api.OK}, {1, api.BigInt, 20001, 0, api.OK},
		{3, api.Dec, 2, 2, api.OK}, {-3, api.Dec, 2, -2, api.OK}, {1, api.Dec, 3, 0, api.OK}, {2, api.Dec, 3, 1, api.OK},
		{math.MaxInt64, api.Dec, 1, math.MaxInt64, api.OK}, {math.MinInt64, api.Dec, 1, math.MinInt64, api.OK},
		{math.MaxInt64, api.BigInt, 1, 0, api.ErrOver}, {math.MinInt64, api.BigInt, 1, 0, api.ErrOver},
		{math.MaxInt64, api.BigInt, 10000, math.MaxInt64, api.OK}, {math.MinInt64, api.BigInt, 10000, math.MinInt64, api.OK},
		{math.MinInt64, api.BigInt, 9999, 0, api.ErrOver}, {0, api.BigInt, 1, 0, api.OK},
	} {
		want := api.Value{Type: api.Dec, Int: x.want}
		if x.why != api.OK {
			want = api.Value{}
		}
		if v, why := wide.Of(x.sum).Mean(x.typ, x.many); v != want || why != x.why {
			t.Errorf("%+v: %v %v", x, v, why)
		}
		far := wide.Of(x.sum).Times(1 << 26)
		if v, why := far.Mean(x.typ, x.many<<26); v != want || why != x.why {
			t.Errorf("%+v, far: %v %v", x, v, why)
		}
	}
	for _, end := range []int64{math.MaxInt64, math.MinInt64} {
		if v, why := wide.Of(end).Times(1<<40).Mean(api.Dec, 1<<40); v.Int != end || why != api.OK {
			t.Errorf("%d: %v %v", end, v, why)
		}
		if v, why := wide.Of(end).Times(1<<40).Mean(api.BigInt, 1<<40); v != (api.Value{}) || why != api.ErrOver {
			t.Errorf("%d: %v %v", end, v, why)
		}
	}
}
