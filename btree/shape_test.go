package btree

import (
	"math/rand"
	"testing"

	"lockstep/api"
)

// depth is how many levels a node has, and whether they all are as they ought to be: no node but the root with too few entries, none with too many, a kid more than entries, all leaves on one level.
func depth(n node, root bool) (int, bool) {
	if len(n.entries) > most || !root && len(n.entries) < least {
		return 0, false
	}
	if len(n.kids) == 0 {
		return 1, true
	}
	if len(n.kids) != len(n.entries)+1 || len(n.entries) == 0 {
		return 0, false
	}
	deep, _ := depth(n.kids[0], false)
	for _, kid := range n.kids {
		if d, ok := depth(kid, false); !ok || d != deep {
			return 0, false
		}
	}
	return deep + 1, true
}

// However entries come and go, the tree stays flat: looking one up takes few steps.
func TestShape(t *testing.T) {
	for seed := range int64(3) {
		r := rand.New(rand.NewSource(seed))
		x := New(false)
		for i := range 30000 {
			key, id := api.Row{{Type: api.BigInt, Int: r.Int63n(3000)}}, uint64(r.Intn(2))
			if r.Intn(5) < 3-i/10000 {
				x.Put(key, id)
			} else {
				x.Drop(key, id)
			}
			if i%50 > 0 {
				continue
			}
			if d, ok := depth(x.root, true); !ok || d > 4 {
				t.Fatalf("a depth of %d, %v, with %d entries", d, ok, x.Len())
			}
		}
	}
}

// Nodes are never changed once they are made: what was there stays as it was, through whatever is done later.
func TestNodesStay(t *testing.T) {
	r := rand.New(rand.NewSource(8))
	x := New(false)
	var roots []node
	var told [][]uint64
	for i := range uint64(900) {
		x.Put(api.Row{{Type: api.BigInt, Int: r.Int63n(400)}}, i)
		x.Drop(api.Row{{Type: api.BigInt, Int: r.Int63n(400)}}, uint64(r.Intn(int(i)+1)))
		if i%30 == 0 {
			roots, told = append(roots, x.root), append(told, ids(x.root))
		}
	}
	for i, n := range roots {
		got := ids(n)
		for k := range got {
			if len(got) != len(told[i]) || got[k] != told[i][k] {
				t.Fatalf("the root of step %d has changed", i*30)
			}
		}
	}
}

func ids(n node) []uint64 {
	var l []uint64
	for e := range n.rising(between(api.Bounds{})) {
		l = append(l, e.id)
	}
	return l
}
