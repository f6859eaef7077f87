package aggr_test

import (
	"testing"

	"lockstep/api"
)

// P14.2: Merge of nil, of another word, star, distinct, typ: ErrArg, whatever they hold, and nothing is changed; of the same: it holds all of both.
func TestMergeKinds(t *testing.T) {
	for _, k := range kinds() {
		for _, ahead := range [][]api.Value{nil, some(k.typ)} {
			p, m := both(t, k, ahead...)
			refused(t, p.Merge(nil), api.ErrArg, k)
			stands(t, p, m, "nil")
			for _, l := range kinds() {
				for _, beside := range [][]api.Value{nil, some(l.typ), valuesOf(l.typ)} {
					p, m := both(t, k, ahead...)
					o, n := both(t, l, beside...)
					want := api.OK
					if k != l {
						want = api.ErrArg
					}
					refused(t, p.Merge(o), want, k, l)
					refused(t, m.merge(n), want, k, l)
					stands(t, p, m, "Merge", l)
					stands(t, o, n, "merged into", k)
				}
			}
		}
	}
}

// P14.2: Merge of a part with itself: all values twice, of distinct still once.
func TestMergeItself(t *testing.T) {
	for _, k := range kinds() {
		p, m := both(t, k, some(k.typ)...)
		size := p.Len()
		for range 3 {
			ok(t, p.Merge(p), k)
			ok(t, m.merge(m.clone()))
			stands(t, p, m, "itself")
			if !k.distinct {
				size *= 2
			}
			if p.Len() != size {
				t.Errorf("%v: %d, not %d", k, p.Len(), size)
			}
		}
	}
}

// P14.2: what was merged stays as it is, and goes on alone behind it, as does what it was merged into, also if that held nothing.
func TestMergeThenAlone(t *testing.T) {
	for _, k := range kinds() {
		for _, ahead := range [][]api.Value{nil, some(k.typ)} {
			for _, beside := range [][]api.Value{nil, some(k.typ)} {
				p, m := both(t, k, ahead...)
				o, n := both(t, k, beside...)
				ok(t, p.Merge(o), k)
				ok(t, m.merge(n))
				for i, v := range append(valuesOf(k.typ), null()) {
					if i%2 == 0 {
						ok(t, o.Add(v), v)
						n.add(v)
					} else {
						ok(t, p.Add(v), v)
						m.add(v)
					}
					stands(t, p, m, "p", i)
					stands(t, o, n, "o", i)
				}
				ok(t, o.Merge(p))
				ok(t, n.merge(m))
				stands(t, p, m, "p")
				stands(t, o, n, "o")
			}
		}
	}
}

// P14.2: parts that together would hold 2^40 values, and one more.
func TestMergeMost(t *testing.T) {
	for _, k := range kinds() {
		if k.distinct || k.typ == api.Null && !k.star {
			continue
		}
		one, other := null(), null()
		if k.typ != api.Null {
			one, other = valuesOf(k.typ)[1], valuesOf(k.typ)[0]
		}
		half, m := both(t, k, one)
		doubled(t, half, m, 39)
		rest, n := both(t, k, other)
		doubled(t, rest, n, 39)
		p, all := half.Clone(), m.clone()
		ok(t, p.Merge(rest), "2^40", k)
		ok(t, all.merge(n))
		stands(t, p, all, "2^40")
		refused(t, p.Merge(p), api.ErrLong, k)
		refused(t, p.Merge(half), api.ErrLong, k)
		refused(t, p.Merge(made(t, k, one)), api.ErrLong, k)
		refused(t, p.Merge(nil), api.ErrArg, k)
		refused(t, p.Merge(made(t, kind{"min", false, true, k.typ})), api.ErrArg, k)
		ok(t, p.Merge(made(t, k)), "nothing", k)
		stands(t, p, all, "refused")
		ok(t, rest.Add(one))
		n.add(one)
		refused(t, half.Merge(rest), api.ErrLong, "one more", k)
		refused(t, rest.Merge(half), api.ErrLong, "one more", k)
		stands(t, half, m, "half")
		stands(t, rest, n, "half and one")
		empty := made(t, k)
		ok(t, empty.Merge(p), "into nothing", k)
		stands(t, empty, all, "into nothing")
	}
}

// P14.2: distinct parts that together would hold 65536 values, and one more, some of which are in both.
func TestMergeMostOnce(t *testing.T) {
	for _, k := range []kind{{"count", false, true, api.BigInt}, {"sum", false, true, api.Dec}, {"avg", false, true, api.BigInt}, {"min", false, true, api.Text}, {"max", false, true, api.Dec}} {
		from := func(first, many int) []api.Value {
			var l []api.Value
			for i := range many {
				l = append(l, nth(k.typ, first+i))
			}
			return l
		}
		p, m := both(t, k, from(0, 40000)...)
		more, moreModel := both(t, k, from(mostOnce+1-40000, 40000)...)
		refused(t, p.Merge(more), api.ErrLong, "one more", k)
		refused(t, more.Merge(p), api.ErrLong, "one more", k)
		stands(t, p, m, "refused")
		stands(t, more, moreModel, "refused")
		o, n := both(t, k, from(mostOnce-40000, 40000)...)
		q, all := o.Clone(), n.clone()
		ok(t, q.Merge(p), k)
		ok(t, all.merge(m))
		ok(t, p.Merge(o), k)
		stands(t, p, all, "65536")
		stands(t, q, all, "65536, the other way")
		stands(t, o, n, "what was merged")
		ok(t, p.Merge(p), "itself")
		ok(t, p.Merge(o), "what is there")
		ok(t, p.Merge(q), "the same")
		refused(t, p.Merge(more), api.ErrLong, "one more", k)
		refused(t, p.Merge(made(t, k, nth(k.typ, mostOnce))), api.ErrLong, k)
		stands(t, p, all, "full")
		single, s := both(t, k, nth(k.typ, mostOnce))
		refused(t, single.Merge(p), api.ErrLong, k)
		stands(t, single, s, "refused")
	}
}

// P14.2: Clone holds the same, and what is done with either does not touch the other one.
func TestClone(t *testing.T) {
	for _, k := range kinds() {
		for _, ahead := range [][]api.Value{nil, some(k.typ)} {
			p, m := both(t, k, ahead...)
			c, n := p.Clone(), m.clone()
			if c == p {
				t.Fatal("the same part")
			}
			stands(t, c, n, "Clone")
			for i, v := range append(valuesOf(k.typ), null()) {
				if i%2 == 0 {
					ok(t, c.Add(v), v)
					n.add(v)
				} else {
					ok(t, p.Add(v), v)
					m.add(v)
				}
				stands(t, p, m, "p", i)
				stands(t, c, n, "c", i)
			}
			ok(t, c.Merge(p))
			ok(t, n.merge(m))
			stands(t, p, m, "p")
			stands(t, c, n, "c")
			ok(t, p.Merge(p.Clone()))
			ok(t, m.merge(m.clone()))
			stands(t, p, m, "p")
			stands(t, c, n, "c")
		}
	}
}
