package aggr_test

import (
	"bytes"
	"math/rand"
	"testing"

	"lockstep/aggr"
	"lockstep/api"
	"lockstep/value"
)

// reloaded is a part there and back through its bytes.
func reloaded(t *testing.T, p *aggr.Part) *aggr.Part {
	t.Helper()
	q, why := aggr.Load(p.Bytes())
	if why != api.OK {
		t.Fatalf("Load: %v of %x", why, p.Bytes())
	}
	return q
}

// mergeAll merges parts till one is left, in every order, and tells each time what came of it. (Each time the parts are made anew.)
func mergeAll(t *testing.T, parts []*aggr.Part, tell func(*aggr.Part)) {
	if len(parts) == 1 {
		tell(parts[0])
		return
	}
	for i := range parts {
		for j := range parts {
			if i == j {
				continue
			}
			var next []*aggr.Part
			for n, p := range parts {
				if n != j {
					next = append(next, p.Clone())
				}
			}
			into := i
			if j < i {
				into--
			}
			ok(t, next[into].Merge(parts[j]))
			mergeAll(t, next, tell)
		}
	}
}

// P14.5: values spread over three parts in every way, which are Merged in every order, some through Bytes and Load on the way: as the part that took them all.
func TestSpreadInEveryWay(t *testing.T) {
	for n, k := range kinds() {
		l := some(k.typ)
		if k.typ == api.BigInt || k.typ == api.Dec {
			l = []api.Value{{Type: k.typ, Int: greatest}, {Type: k.typ, Int: greatest}, {Type: k.typ, Int: -3}, {Type: k.typ, Int: 1}}
		}
		l = append(l, null())
		m := modelOf(k, l...)
		want := m.bytes()
		stands(t, made(t, k, l...), m, "at once")
		ways := 1
		for range l {
			ways *= 3
		}
		for way := range ways {
			parts := []*aggr.Part{made(t, k), made(t, k), made(t, k)}
			for i, rest := 0, way; i < len(l); i, rest = i+1, rest/3 {
				ok(t, parts[rest%3].Add(l[i]))
			}
			if n := (way + n) % 4; n < 3 {
				parts[n] = reloaded(t, parts[n])
			}
			mergeAll(t, parts, func(p *aggr.Part) {
				if !bytes.Equal(p.Bytes(), want) {
					t.Errorf("%v in the way %d: %x, not %x", k, way, p.Bytes(), want)
				}
				v, why := p.Value()
				if w, wantWhy := m.value(); v != w || why != wantWhy || int64(p.Len()) != m.len() {
					t.Errorf("%v in the way %d: %v %v %d", k, way, v, why, p.Len())
				}
			})
		}
	}
}

// P14.5: many values at random, spread over many parts, Merged at random, with Clones and Loads on the way.
func TestSpreadAtRandom(t *testing.T) {
	rnd := rand.New(rand.NewSource(145))
	all := kinds()
	for range 6000 {
		k := all[rnd.Intn(len(all))]
		m := modelOf(k)
		parts := make([]*aggr.Part, 1+rnd.Intn(6))
		for i := range parts {
			parts[i] = made(t, k)
		}
		for range rnd.Intn(30) {
			v := randomValue(rnd, k.typ)
			i := rnd.Intn(len(parts))
			refused(t, parts[i].Add(v), m.add(v), k, v)
			if rnd.Intn(20) == 0 {
				parts[i] = reloaded(t, parts[i])
			}
		}
		for len(parts) > 1 {
			rnd.Shuffle(len(parts), func(i, j int) { parts[i], parts[j] = parts[j], parts[i] })
			last := parts[len(parts)-1]
			switch rnd.Intn(4) {
			case 0:
				last = reloaded(t, last)
			case 1:
				parts[0] = reloaded(t, parts[0])
			case 2:
				parts[0] = parts[0].Clone()
			}
			ok(t, parts[0].Merge(last))
			parts = parts[:len(parts)-1]
		}
		stands(t, parts[0], m, "in parts")
	}
}

// randomValue is one of few values of a type, or any, now and then NULL, or of another type, or with what its type does not name.
func randomValue(rnd *rand.Rand, typ int) api.Value {
	if rnd.Intn(30) == 0 {
		typ = rnd.Intn(5)
	}
	v := null()
	if l := valuesOf(typ); len(l) > 0 && rnd.Intn(8) > 0 {
		v = l[rnd.Intn(len(l))]
		if v.Type != api.Text && v.Type != api.Bool && rnd.Intn(2) == 0 {
			v.Int = int64(rnd.Uint64()) >> uint(rnd.Intn(64))
		}
	}
	if rnd.Intn(4) == 0 {
		return stuffed(v)
	}
	return v
}

// P14.6: Load of Bytes is the same part in all that is done with it then.
func TestThereAndBack(t *testing.T) {
	rnd := rand.New(rand.NewSource(146))
	all := kinds()
	for range 3000 {
		k := all[rnd.Intn(len(all))]
		p := made(t, k)
		for range rnd.Intn(10) {
			p.Add(randomValue(rnd, k.typ))
		}
		q := reloaded(t, p)
		for range rnd.Intn(12) {
			a, b := done(t, rnd, k, p, q)
			if a != b {
				t.Fatalf("%v: %v, but %v", k, a, b)
			}
			v, why := p.Value()
			if w, whyToo := q.Value(); v != w || why != whyToo || p.Len() != q.Len() || !bytes.Equal(p.Bytes(), q.Bytes()) {
				t.Fatalf("%v: %v %v, but %v %v", k, v, why, w, whyToo)
			}
		}
	}
}

// done is the same done with two parts, and what they answer.
func done(t *testing.T, rnd *rand.Rand, k kind, p, q *aggr.Part) (api.Errno, api.Errno) {
	switch rnd.Intn(6) {
	case 0:
		return p.Merge(p), q.Merge(q)
	case 1:
		o := made(t, k)
		for range rnd.Intn(4) {
			o.Add(randomValue(rnd, k.typ))
		}
		return p.Merge(o), q.Merge(o)
	case 2:
		all := kinds()
		l := all[rnd.Intn(len(all))]
		return p.Merge(made(t, l)), q.Merge(made(t, l))
	case 3:
		a, b := p.Clone(), q.Clone()
		return p.Merge(b), q.Merge(a)
	}
	v := randomValue(rnd, k.typ)
	return p.Add(v), q.Add(v)
}

// P14.7: avg of values that are all one is that, as a DECIMAL, however many they are.
func TestAvgOfOne(t *testing.T) {
	for _, typ := range []int{api.BigInt, api.Dec} {
		for _, v := range valuesOf(typ) {
			for _, distinct := range []bool{false, true} {
				want, why := value.Cast(v, api.Dec)
				p := made(t, kind{"avg", false, distinct, typ})
				for range 7 {
					ok(t, p.Add(v))
					if got, gotWhy := p.Value(); got != want || gotWhy != why {
						t.Errorf("%v: %v %v, not %v %v", v, got, gotWhy, want, why)
					}
				}
			}
		}
	}
}

// P14.7: min is not behind max, and both are among the values; count is Len; of distinct values distinct changes nothing.
func TestLaws(t *testing.T) {
	rnd := rand.New(rand.NewSource(147))
	for range 2000 {
		typ := rnd.Intn(5)
		var l, once []api.Value
		for range rnd.Intn(12) {
			v := plain(randomValue(rnd, typ))
			if v.Type != typ {
				v = null()
			}
			l = append(l, v)
			if _, is := modelOf(kind{"count", false, true, typ}, once...).held[v]; !is {
				once = append(once, v)
			}
		}
		lowest, _ := made(t, kind{"min", false, rnd.Intn(2) == 0, typ}, l...).Value()
		highest, _ := made(t, kind{"max", false, rnd.Intn(2) == 0, typ}, l...).Value()
		if value.Order(lowest, highest) > 0 {
			t.Errorf("%v: %v behind %v", l, lowest, highest)
		}
		for _, k := range kinds() {
			if k.typ != typ {
				continue
			}
			p := made(t, k, l...)
			if v, why := p.Value(); k.agg == "count" && (v != num(int64(p.Len())) || why != api.OK) {
				t.Errorf("%v: %v %v, not %d", k, v, why, p.Len())
			}
			if !k.distinct {
				continue
			}
			p, q := made(t, k, once...), made(t, kind{k.agg, false, false, typ}, once...)
			v, why := p.Value()
			if w, whyToo := q.Value(); v != w || why != whyToo || p.Len() != q.Len() {
				t.Errorf("%v of %v: %v %v %d, but %v %v %d", k, once, v, why, p.Len(), w, whyToo, q.Len())
			}
		}
	}
}
