package aggr_test

import (
	"strconv"
	"testing"

	"lockstep/aggr"
	"lockstep/api"
)

// P14.1: Add of each value to each aggregate, to one that holds nothing and to one that holds some; also of values that hold what their types do not name.
func TestAdd(t *testing.T) {
	for _, k := range kinds() {
		for _, ahead := range [][]api.Value{nil, some(k.typ)} {
			for _, v := range allValues() {
				for _, x := range []api.Value{v, stuffed(v)} {
					p, m := both(t, k, ahead...)
					want := api.OK
					if !k.star && v.Type != api.Null && v.Type != k.typ {
						want = api.ErrType
					}
					refused(t, p.Add(x), want, k, x)
					refused(t, m.add(x), want, k, x)
					stands(t, p, m, "Add", x)
					refused(t, p.Add(x), want, k, x)
					m.add(x)
					stands(t, p, m, "Add twice", x)
				}
			}
		}
	}
}

// P14.1: Add of a value that can't be is refused as value.Check has it, by star too, whether or not its type is that of the part; nothing is changed.
func TestAddImpossible(t *testing.T) {
	for _, k := range kinds() {
		for _, x := range impossible() {
			p, m := both(t, k, some(k.typ)...)
			refused(t, p.Add(x.v), x.why, k, x.v)
			stands(t, p, m, "refused")
			q, n := both(t, k)
			refused(t, q.Add(x.v), x.why, k, x.v)
			stands(t, q, n, "refused")
		}
	}
}

// P14.1: Len of NULLs alone; a value that holds what its type does not name is the same as one that does not.
func TestAddNulls(t *testing.T) {
	for _, k := range kinds() {
		p := made(t, k, null(), stuffed(null()), null())
		want := 0
		if k.star {
			want = 3
		}
		if p.Len() != want {
			t.Errorf("%v: %d, not %d", k, p.Len(), want)
		}
		for _, v := range some(k.typ) {
			q := made(t, k, v, stuffed(v), v)
			want := 3
			if k.distinct {
				want = 1
			}
			if q.Len() != want {
				t.Errorf("%v: %d of %v, not %d", k, q.Len(), v, want)
			}
		}
	}
}

// nth is one of many values of a type, not in their order.
func nth(typ int, i int) api.Value {
	n := int64(i) * 40503 % 1048583
	if typ == api.Text {
		return text(strconv.FormatInt(n, 36))
	}
	return api.Value{Type: typ, Int: n - 30000}
}

// P14.1: of distinct the 65536th value is taken, one more is not, nor is it by what came out of Clone, Load or Merge; one that is there is, and NULL.
func TestAddMostOnce(t *testing.T) {
	for _, k := range []kind{{"count", false, true, api.Text}, {"sum", false, true, api.BigInt}, {"avg", false, true, api.Dec}, {"min", false, true, api.BigInt}, {"max", false, true, api.Text}} {
		p, m := both(t, k)
		for i := range mostOnce - 1 {
			ok(t, p.Add(nth(k.typ, i)), i)
			m.add(nth(k.typ, i))
		}
		stands(t, p, m, "one less")
		ok(t, p.Add(nth(k.typ, mostOnce-1)), "the last one")
		m.add(nth(k.typ, mostOnce-1))
		stands(t, p, m, "all")
		loaded, why := aggr.Load(p.Bytes())
		ok(t, why)
		merged := made(t, k)
		ok(t, merged.Merge(p))
		for _, q := range []*aggr.Part{p, p.Clone(), loaded, merged} {
			for _, v := range []api.Value{nth(k.typ, mostOnce), stuffed(nth(k.typ, mostOnce+1))} {
				refused(t, q.Add(v), api.ErrLong, k, v)
			}
			for _, i := range []int{0, 1, mostOnce / 2, mostOnce - 1} {
				ok(t, q.Add(nth(k.typ, i)), i)
				ok(t, q.Add(stuffed(nth(k.typ, i))), i)
			}
			ok(t, q.Add(null()))
			ok(t, q.Add(stuffed(null())))
			refused(t, q.Add(truth(1)), api.ErrType, k)
			refused(t, q.Add(truth(2)), api.ErrArg, k)
			refused(t, q.Add(text("\xff")), api.ErrForm, k)
			stands(t, q, m, "full")
		}
	}
}

// full is a part of 2^40 values, or rows, that are all one.
func full(t *testing.T, k kind, v api.Value) (*aggr.Part, *model) {
	t.Helper()
	p, m := both(t, k, v)
	doubled(t, p, m, 40)
	stands(t, p, m, "full")
	if p.Len() != most {
		t.Fatalf("%d values", p.Len())
	}
	return p, m
}

// P14.1: a part that holds 2^40 values takes none any more, but NULL, if it is not star; other errors come first.
func TestAddMost(t *testing.T) {
	for _, k := range kinds() {
		if k.distinct || k.typ == api.Null && !k.star {
			continue
		}
		v := null()
		if k.typ != api.Null {
			v = valuesOf(k.typ)[1]
		}
		p, m := full(t, k, v)
		loaded, why := aggr.Load(p.Bytes())
		ok(t, why, k)
		for _, q := range []*aggr.Part{p, loaded, p.Clone()} {
			for _, x := range allValues() {
				want := api.ErrLong
				if !k.star && x.Type == api.Null {
					want = api.OK
				} else if !k.star && x.Type != k.typ {
					want = api.ErrType
				}
				refused(t, q.Add(x), want, k, x)
			}
			for _, x := range impossible() {
				refused(t, q.Add(x.v), x.why, k, x.v)
			}
			stands(t, q, m, "still full")
		}
	}
}

// P14.1: the last one of 2^40 is taken.
func TestAddLast(t *testing.T) {
	for _, k := range []kind{{"count", true, false, api.Text}, {"count", false, false, api.Text}, {"sum", false, false, api.BigInt}, {"avg", false, false, api.Dec}, {"min", false, false, api.Bool}, {"max", false, false, api.Dec}} {
		v := valuesOf(k.typ)[1]
		p, m := both(t, k)
		q, n := both(t, k, v)
		for range 40 {
			ok(t, p.Merge(q))
			ok(t, m.merge(n))
			doubled(t, q, n, 1)
		}
		if p.Len() != most-1 {
			t.Fatal(p.Len())
		}
		stands(t, p, m, "one less")
		last := valuesOf(k.typ)[0]
		ok(t, p.Add(last), k)
		m.add(last)
		stands(t, p, m, "all")
		refused(t, p.Add(last), api.ErrLong, k)
		stands(t, p, m, "all")
	}
}
