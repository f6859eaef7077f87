package aggr_test

import (
	"math/rand"
	"testing"

	"lockstep/aggr"
	"lockstep/api"
)

// pair is a part beside its model.
type pair struct {
	p *aggr.Part
	m *model
}

// P14.1 to P14.6: several parts, of which some are of one kind, and calls at random, also such as are refused: each time all of them are what the model says.
func TestModel(t *testing.T) {
	rnd := rand.New(rand.NewSource(1))
	all := kinds()
	whys := map[api.Errno]int{}
	for range 1500 {
		pool := make([]pair, 4)
		k := all[rnd.Intn(len(all))]
		for i := range pool {
			if rnd.Intn(5) == 0 {
				k = all[rnd.Intn(len(all))]
			}
			pool[i].p, pool[i].m = both(t, k)
		}
		for range 60 {
			i, j := rnd.Intn(len(pool)), rnd.Intn(len(pool))
			whys[step(t, rnd, pool, i, j)]++
			for n, x := range pool {
				stands(t, x.p, x.m, "part", n, "behind", i, j)
			}
		}
	}
	for _, why := range []api.Errno{api.OK, api.ErrArg, api.ErrLong, api.ErrForm, api.ErrType} {
		if whys[why] < 100 {
			t.Errorf("%v came %d times", why, whys[why])
		}
	}
}

// step is a call at random on a part, maybe with another one, and what it answered.
func step(t *testing.T, rnd *rand.Rand, pool []pair, i, j int) api.Errno {
	x := pool[i]
	var got, want api.Errno
	switch rnd.Intn(12) {
	case 0, 1, 2:
		got, want = x.p.Merge(x.p), x.m.merge(x.m.clone())
	case 3, 4:
		got, want = x.p.Merge(pool[j].p), x.m.merge(pool[j].m)
	case 5:
		pool[j] = pair{x.p.Clone(), x.m.clone()}
	case 6:
		pool[i].p = reloaded(t, x.p)
	case 7:
		l := impossible()
		v := l[rnd.Intn(len(l))]
		got, want = x.p.Add(v.v), v.why
	default:
		v := randomValue(rnd, x.m.typ)
		got, want = x.p.Add(v), x.m.add(v)
	}
	refused(t, got, want, x.m.kind)
	return got
}
