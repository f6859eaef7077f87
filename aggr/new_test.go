package aggr_test

import (
	"math"
	"slices"
	"testing"

	"lockstep/aggr"
	"lockstep/api"
)

// P14.1: New of each word, and of others, star, distinct, and each type, one below, one above: all of these together, so that two faults at once are told in their order.
func TestNew(t *testing.T) {
	words := []string{"count", "sum", "min", "max", "avg"}
	others := []string{"", "COUNT", "Count", "counts", "coun", " count", "avg ", "sum\x00", "average", "*", "minmax", "\xff"}
	types := []int{math.MinInt, -2, -1, api.Null, api.BigInt, api.Dec, api.Text, api.Bool, api.Bool + 1, api.Bool + 2, 1 << 32, 1<<32 + 1, math.MaxInt}
	taken := 0
	for _, agg := range slices.Concat(words, others) {
		for _, star := range []bool{false, true} {
			for _, distinct := range []bool{false, true} {
				for _, typ := range types {
					want := api.OK
					switch {
					case !slices.Contains(words, agg):
						want = api.ErrArg
					case star && agg != "count":
						want = api.ErrArg
					case star && distinct:
						want = api.ErrArg
					case typ < 0 || typ > 4:
						want = api.ErrType
					case (agg == "sum" || agg == "avg") && typ > 2:
						want = api.ErrType
					}
					p, why := aggr.New(agg, star, distinct, typ)
					if why != want || (p != nil) != (want == api.OK) {
						t.Errorf("New(%q, %v, %v, %d): %v %v, not %v", agg, star, distinct, typ, p, why, want)
					}
					if p != nil && why == api.OK {
						taken++
						stands(t, p, modelOf(kind{agg, star, distinct, typ}), "New")
					}
				}
			}
		}
	}
	if taken != len(kinds()) {
		t.Errorf("%d kinds, not %d", taken, len(kinds()))
	}
}

// P14.1: two parts know nothing of one another.
func TestNewParts(t *testing.T) {
	for _, k := range kinds() {
		p, m := both(t, k, some(k.typ)...)
		q, n := both(t, k)
		stands(t, q, n, "beside another one")
		for _, v := range valuesOf(k.typ) {
			refused(t, q.Add(v), n.add(v), v)
		}
		stands(t, p, m, "beside another one")
		stands(t, q, n, "by itself")
	}
}

// The rule of ends: no call on the zero Part panics, whatever it answers; it is no part of any aggregate.
func TestZeroPart(t *testing.T) {
	for _, v := range allValues() {
		var p, q aggr.Part
		p.Add(v)
		p.Merge(&q)
		p.Merge(&p)
		p.Merge(nil)
		p.Value()
		p.Len()
		p.Clone().Add(v)
		if _, why := aggr.Load(p.Bytes()); why != api.ErrBytes {
			t.Error(why)
		}
		for _, k := range kinds() {
			refused(t, made(t, k).Merge(&p), api.ErrArg, k)
			refused(t, p.Merge(made(t, k)), api.ErrArg, k)
		}
	}
}
