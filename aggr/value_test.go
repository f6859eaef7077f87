package aggr_test

import (
	"math"
	"slices"
	"strings"
	"testing"

	"lockstep/aggr"
	"lockstep/api"
)

const (
	least    = math.MinInt64
	greatest = math.MaxInt64
)

// comes: Value of a part of these values is that.
func comes(t *testing.T, k kind, l []api.Value, want api.Value, wantWhy api.Errno) {
	t.Helper()
	p := made(t, k, l...)
	if v, why := p.Value(); v != want || why != wantWhy {
		t.Errorf("%v of %.200v: %.60v %v, not %.60v %v", k, l, v, why, want, wantWhy)
	}
}

func nums(l ...int64) []api.Value {
	var out []api.Value
	for _, n := range l {
		out = append(out, num(n))
	}
	return out
}

func decs(l ...int64) []api.Value {
	var out []api.Value
	for _, n := range l {
		out = append(out, dec(n))
	}
	return out
}

// The chapter's examples.
func TestExamples(t *testing.T) {
	plainly := func(agg string, l []api.Value, want api.Value) {
		permutations(l, func(l []api.Value) { comes(t, kind{agg, false, false, api.BigInt}, l, want, api.OK) })
	}
	plainly("sum", nums(greatest, 1, -1), num(greatest))
	plainly("avg", nums(1, 2), dec(15000))
	plainly("avg", nums(1, 1, 2), dec(13333))
	plainly("avg", nums(-1, -2, -2), dec(-16667))
	l := []api.Value{null(), num(1)}
	comes(t, kind{"count", false, false, api.BigInt}, l, num(1), api.OK)
	comes(t, kind{"count", true, false, api.BigInt}, l, num(2), api.OK)
}

// P14.3: each word with each type: of nothing, of NULLs alone, of some values.
func TestValueOfEach(t *testing.T) {
	type answers struct{ count, sum, min, max, avg api.Value }
	of := func(k kind, a answers) api.Value {
		return map[string]api.Value{"count": a.count, "sum": a.sum, "min": a.min, "max": a.max, "avg": a.avg}[k.agg]
	}
	nothing := answers{count: num(0)}
	all := [][2]answers{ // of some(typ), and of each once
		api.Null:   {nothing, nothing},
		api.BigInt: {{num(4), num(11), num(-5), num(10), dec(27500)}, {num(3), num(8), num(-5), num(10), dec(26667)}},
		api.Dec:    {{num(4), dec(11), dec(-5), dec(10), dec(3)}, {num(3), dec(8), dec(-5), dec(10), dec(3)}},
		api.Text:   {{count: num(4), min: text("a\x00"), max: text("é")}, {count: num(3), min: text("a\x00"), max: text("é")}},
		api.Bool:   {{count: num(3), min: truth(0), max: truth(1)}, {count: num(2), min: truth(0), max: truth(1)}},
	}
	for _, k := range kinds() {
		comes(t, k, nil, of(k, nothing), api.OK)
		nulls := []api.Value{null(), stuffed(null())}
		if k.star {
			comes(t, k, nulls, num(2), api.OK)
			comes(t, k, append(some(k.typ), nulls...), num(int64(len(some(k.typ))+2)), api.OK)
			continue
		}
		comes(t, k, nulls, of(k, nothing), api.OK)
		want := of(k, all[k.typ][0])
		if k.distinct {
			want = of(k, all[k.typ][1])
		}
		comes(t, k, some(k.typ), want, api.OK)
		comes(t, k, append(nulls, some(k.typ)...), want, api.OK)
	}
}

// P14.3: sums that leave the type and come back, in any order, and such as stay outside; to the last number inside and the first outside.
func TestSumEnds(t *testing.T) {
	for _, typ := range []int{api.BigInt, api.Dec} {
		for _, x := range []struct {
			l    []int64
			sum  int64
			over bool
		}{
			{[]int64{greatest, 1, -1}, greatest, false},
			{[]int64{greatest, greatest, -greatest, -greatest, 5}, 5, false},
			{[]int64{greatest, 1, greatest, 1, least, least}, 0, false},
			{[]int64{greatest, greatest, least, least}, -2, false},
			{[]int64{least, least, greatest, 2, greatest, -1}, -1, false},
			{[]int64{greatest}, greatest, false},
			{[]int64{greatest - 1, 1}, greatest, false},
			{[]int64{greatest, 1}, 0, true},
			{[]int64{greatest, greatest}, 0, true},
			{[]int64{greatest, greatest, 2}, 0, true},
			{[]int64{greatest, greatest, 3}, 0, true},
			{[]int64{least}, least, false},
			{[]int64{least + 1, -1}, least, false},
			{[]int64{least, -1}, 0, true},
			{[]int64{least, least}, 0, true},
			{[]int64{least, least, -1}, 0, true},
			{[]int64{least, least, 1}, 0, true},
			{[]int64{least, greatest}, -1, false},
			{[]int64{least, greatest, 1}, 0, false},
			{[]int64{0, 0}, 0, false},
		} {
			var l []api.Value
			for _, n := range x.l {
				l = append(l, api.Value{Type: typ, Int: n})
			}
			want, why := api.Value{Type: typ, Int: x.sum}, api.OK
			if x.over {
				want, why = api.Value{}, api.ErrOver
			}
			permutations(l, func(l []api.Value) { comes(t, kind{"sum", false, false, typ}, l, want, why) })
		}
		once := []api.Value{{Type: typ, Int: greatest}, {Type: typ, Int: greatest}, {Type: typ, Int: 1}, {Type: typ, Int: -1}, {Type: typ, Int: 1}}
		permutations(once, func(l []api.Value) {
			comes(t, kind{"sum", false, true, typ}, l, api.Value{Type: typ, Int: greatest}, api.OK)
		})
		comes(t, kind{"sum", false, true, typ}, once[:3], api.Value{}, api.ErrOver)
	}
}

// P14.3: sums far beyond 64 bits on both sides, and what brings them back.
func TestSumFar(t *testing.T) {
	for _, typ := range []int{api.BigInt, api.Dec} {
		k := kind{"sum", false, false, typ}
		up, m := both(t, k, api.Value{Type: typ, Int: greatest})
		down, n := both(t, k, api.Value{Type: typ, Int: least})
		for i := range 39 {
			doubled(t, up, m, 1)
			doubled(t, down, n, 1)
			for _, p := range []*aggr.Part{up, down} {
				if v, why := p.Value(); v != (api.Value{}) || why != api.ErrOver {
					t.Errorf("%d: %v %v", i, v, why)
				}
			}
		}
		ok(t, up.Merge(down))
		ok(t, m.merge(n))
		if v, why := up.Value(); v != (api.Value{Type: typ, Int: -1 << 39}) || why != api.OK {
			t.Errorf("%v %v", v, why)
		}
		stands(t, up, m, "up and down")
	}
}

// zeros is how many of nought, and other values.
func zeros(many int, l ...api.Value) []api.Value {
	for range many - len(l) {
		l = append(l, api.Value{Type: l[0].Type})
	}
	return l
}

// P14.3: averages: the nearest one, of two as near the one farther from nought, on both sides of it.
func TestAvgRounds(t *testing.T) {
	whole, parts := kind{"avg", false, false, api.BigInt}, kind{"avg", false, false, api.Dec}
	for _, sign := range []int64{1, -1} {
		for _, x := range []struct {
			k    kind
			l    []api.Value
			want int64
		}{
			{whole, zeros(20000, num(sign)), 1}, // 0.00005
			{whole, zeros(20001, num(sign)), 0},
			{whole, zeros(19999, num(sign)), 1},
			{whole, zeros(20000, num(sign*3)), 2},
			{whole, zeros(20001, num(sign*3)), 1},
			{whole, zeros(30000, num(sign)), 0},
			{whole, zeros(30000, num(sign*2)), 1},
			{whole, nums(sign, sign*2), 15000},
			{whole, nums(sign, sign, sign*2), 13333},
			{whole, nums(sign, sign*2, sign*2), 16667},
			{whole, nums(sign*7, 0, 0, 0, 0, 0, 0), 10000},
			{parts, decs(sign, 0), 1},
			{parts, decs(sign, sign*2), 2},
			{parts, decs(sign*3, 0), 2},
			{parts, decs(sign, 0, 0), 0},
			{parts, decs(sign*2, 0, 0), 1},
			{parts, decs(sign, sign, sign*3, sign), 2},
			{parts, decs(sign*5, sign, 0, 0), 2},
			{parts, decs(sign*15000, sign*5000), 10000},
		} {
			comes(t, x.k, x.l, dec(sign*x.want), api.OK)
		}
	}
	comes(t, whole, nums(1, -1), dec(0), api.OK)
	comes(t, kind{"avg", false, true, api.BigInt}, nums(1, 2, 2, 2), dec(15000), api.OK)
	comes(t, kind{"avg", false, true, api.Dec}, decs(1, 2, 2, 2, 1), dec(2), api.OK)
}

// P14.3: averages at the ends of DECIMAL: the last ones inside, the first ones outside.
func TestAvgEnds(t *testing.T) {
	whole, parts := kind{"avg", false, false, api.BigInt}, kind{"avg", false, false, api.Dec}
	over := func(k kind, l []api.Value) { comes(t, k, l, api.Value{}, api.ErrOver) }
	comes(t, parts, decs(greatest), dec(greatest), api.OK)
	comes(t, parts, decs(greatest, greatest, greatest), dec(greatest), api.OK)
	comes(t, parts, decs(least, least, least), dec(least), api.OK)
	comes(t, parts, decs(greatest, greatest-1), dec(greatest), api.OK)
	comes(t, parts, decs(least, least+1), dec(least), api.OK)
	comes(t, parts, decs(greatest, least), dec(-1), api.OK)
	comes(t, parts, decs(greatest, least, 1), dec(0), api.OK)

	over(whole, nums(greatest))
	over(whole, nums(least))
	over(whole, nums(greatest, greatest))
	comes(t, whole, nums(greatest, least), dec(-5000), api.OK)
	comes(t, whole, nums(922337203685477), dec(9223372036854770000), api.OK)
	over(whole, nums(922337203685478))
	comes(t, whole, nums(-922337203685477), dec(-9223372036854770000), api.OK)
	over(whole, nums(-922337203685478))
	comes(t, whole, zeros(10000, num(greatest)), dec(greatest), api.OK)
	over(whole, zeros(10000, num(greatest), num(1)))
	comes(t, whole, zeros(10000, num(least)), dec(least), api.OK)
	over(whole, zeros(10000, num(least), num(-1)))
	// Half a ten-thousandth outside, and less than that.
	over(whole, zeros(20000, num(greatest), num(greatest), num(1)))
	comes(t, whole, zeros(30000, num(greatest), num(greatest), num(greatest), num(1)), dec(greatest), api.OK)
	over(whole, zeros(30000, num(greatest), num(greatest), num(greatest), num(2)))
	over(whole, zeros(20000, num(least), num(least), num(-1)))
	comes(t, whole, zeros(30000, num(least), num(least), num(least), num(-1)), dec(least), api.OK)
	over(whole, zeros(30000, num(least), num(least), num(least), num(-2)))
}

// P14.3: averages of sums beyond 64 bits, of as many values as there may be.
func TestAvgFar(t *testing.T) {
	for _, n := range []int64{greatest, least, greatest - 1, 922337203685477, -922337203685477, 922337203685478, -922337203685478, 3, -1} {
		for _, typ := range []int{api.BigInt, api.Dec} {
			v := api.Value{Type: typ, Int: n}
			p, m := both(t, kind{"avg", false, false, typ}, v)
			for i := range 41 {
				stands(t, p, m, "doubled", i)
				want, why := dec(n), api.OK
				if typ == api.BigInt {
					want = dec(n * 10000)
					if n > 922337203685477 || n < -922337203685477 {
						want, why = api.Value{}, api.ErrOver
					}
				}
				if got, gotWhy := p.Value(); got != want || gotWhy != why {
					t.Errorf("%d of %d: %v %v", i, n, got, gotWhy)
				}
				if i < 40 {
					doubled(t, p, m, 1)
				}
			}
			// A beginning of 2^39 and another value behind it.
			q, o := both(t, kind{"avg", false, false, typ}, v, api.Value{Type: typ, Int: 1})
			doubled(t, q, o, 38)
			ok(t, q.Add(v))
			o.add(v)
			stands(t, q, o, "uneven")
		}
	}
}

// P14.3: min and max of texts, truths, numbers, by value.Order, in any order, with and without distinct; of values that hold what their types do not name nothing of that is told.
func TestMinMax(t *testing.T) {
	long := strings.Repeat("z", api.MaxText)
	for _, x := range [][]api.Value{ // in their order
		{num(least), num(-1), num(0), num(greatest)},
		{dec(least), dec(-10000), dec(0), dec(5), dec(greatest)},
		{text(""), text("\x00"), text("B"), text("a"), text("a\x00")},
		{text("a"), text("aa"), text("b"), text("é")},
		{text("10"), text("9"), text(long[1:]), text(long)},
		{truth(0), truth(1)},
		{truth(1)}, {truth(0)}, {text("")}, {num(0)}, {dec(0)},
	} {
		first, last := x[0], x[len(x)-1]
		for _, distinct := range []bool{false, true} {
			permutations(slices.Clone(x), func(l []api.Value) {
				comes(t, kind{"min", false, distinct, first.Type}, l, first, api.OK)
				comes(t, kind{"max", false, distinct, first.Type}, l, last, api.OK)
				var stuff []api.Value
				for _, v := range l {
					stuff = append(stuff, stuffed(v), null(), v)
				}
				comes(t, kind{"min", false, distinct, first.Type}, stuff, first, api.OK)
				comes(t, kind{"max", false, distinct, first.Type}, stuff, last, api.OK)
			})
		}
	}
}

// P14.3: Value changes nothing, and answers the same again.
func TestValueTwice(t *testing.T) {
	for _, k := range kinds() {
		p, m := both(t, k, valuesOf(k.typ)...)
		stands(t, p, m, "once")
		stands(t, p, m, "twice")
	}
}
