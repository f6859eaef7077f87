package btree_test

import (
	"math/rand"
	"slices"
	"testing"

	"lockstep/api"
	"lockstep/btree"
)

// someTree is a tree of some entries, whose keys all have that many values; and its entries.
func someTree(r *rand.Rand, n, long int) (*btree.Tree, []pair) {
	x := btree.New(false)
	var l []pair
	for len(l) < n {
		p := pair{someRow(r, someValues(), long, long), uint64(r.Intn(9))}
		if x.Put(p.key, p.id) == api.OK {
			l = append(l, p)
		}
	}
	return x, l
}

// P5.3: all entries rise, each once; Back turns them about; Get is what Range tells between a key and itself.
func TestSortedList(t *testing.T) {
	r := rand.New(rand.NewSource(3))
	for _, n := range []int{0, 1, 2, 15, 16, 17, 33, 90, 600} {
		for long := 2; long <= api.MaxKey; long++ {
			x, l := someTree(r, n, long)
			up := gone(x.Range(api.Bounds{}))
			for i := range up {
				if i > 0 && before(up[i-1], up[i]) >= 0 {
					t.Fatalf("%v ahead of %v", up[i-1], up[i])
				}
			}
			if len(up) != n || x.Count(api.Bounds{}) != n || !exactly(gone(x.Back(api.Bounds{})), turned(up)) {
				t.Fatalf("%d entries: %v", n, up)
			}
			for _, p := range append(l, pair{key: someRow(r, someValues(), long, long)}) {
				at := api.Bounds{Low: p.key, High: p.key, LowIn: true, HighIn: true}
				if got, want := x.Get(p.key), numbers(gone(x.Range(at))); !slices.Equal(got, want) {
					t.Fatalf("Get(%v): %v, not %v", p.key, got, want)
				}
			}
		}
	}
}

// P5.4: below a key, at it, above it: together all, in this order.
func TestRangeInParts(t *testing.T) {
	r := rand.New(rand.NewSource(4))
	for _, n := range []int{0, 1, 5, 40, 300} {
		x, _ := someTree(r, n, 3)
		for range 20 {
			put(t, x, someRow(r, someValues(), 1, 4), r.Uint64())
		}
		all := gone(x.Range(api.Bounds{}))
		for range 300 {
			key := someRow(r, someValues(), 1, 5)
			below, at, above := api.Bounds{High: key}, api.Bounds{Low: key, High: key, LowIn: true, HighIn: true}, api.Bounds{Low: key}
			got := slices.Concat(gone(x.Range(below)), gone(x.Range(at)), gone(x.Range(above)))
			if !exactly(got, all) {
				t.Fatalf("parts at %v: %v, not %v", key, got, all)
			}
			if x.Count(below)+x.Count(at)+x.Count(above) != len(all) {
				t.Fatalf("counts at %v", key)
			}
			back := slices.Concat(gone(x.Back(above)), gone(x.Back(at)), gone(x.Back(below)))
			if !exactly(back, turned(all)) {
				t.Fatalf("parts at %v, back: %v, not %v turned about", key, back, all)
			}
		}
	}
}

// P5.5: what is put and dropped is as if it had not been: in all that is told, and in all that is answered to further calls.
func TestThereAndBack(t *testing.T) {
	r := rand.New(rand.NewSource(6))
	for _, unique := range []bool{false, true} {
		for _, n := range []int{0, 1, 16, 17, 120, 700} {
			x, y := btree.New(unique), btree.New(unique)
			m := &model{unique: unique}
			for range n {
				key, id := someRow(r, someValues(), 1, 3), r.Uint64()
				if m.put(key, id) == api.OK {
					put(t, x, key, id)
					put(t, y, key, id)
				}
			}
			var l []pair
			for range 300 {
				p := pair{someRow(r, someValues(), 1, 4), r.Uint64()}
				if x.Put(p.key, p.id) == api.OK {
					l = append(l, p)
				}
			}
			r.Shuffle(len(l), func(i, k int) { l[i], l[k] = l[k], l[i] })
			for _, p := range l {
				if !x.Drop(p.key, p.id) {
					t.Fatalf("%v is not there", p)
				}
			}
			same(t, x, m)
			for range 200 {
				sameSpan(t, x, m, someBounds(r, someValues()))
				key, id := someRow(r, someValues(), 0, 5), uint64(r.Intn(4))
				if a, b := x.Put(key, id), y.Put(key, id); a != b || a != m.put(key, id) {
					t.Fatalf("Put(%v, %d): %v, and %v of one that is as it was", key, id, a, b)
				}
			}
		}
	}
}

// P5.5: a full tree, emptied in each of three orders, is one of none.
func TestEmptied(t *testing.T) {
	for _, step := range []int{1, api.MaxRows - 1, 1031} {
		x, m := grown(t, api.MaxRows)
		for i := range api.MaxRows {
			key := row(whole(int64(i * step % api.MaxRows * 2)))
			if !x.Drop(key, 1) || x.Drop(key, 1) {
				t.Fatalf("Drop(%v)", key)
			}
			m.list[i*step%api.MaxRows].id = 0
			if i%512 == 0 {
				left := &model{list: slices.DeleteFunc(slices.Clone(m.list), func(p pair) bool { return p.id == 0 })}
				sameSpan(t, x, left, api.Bounds{})
				sameEnds(t, x, left)
			}
		}
		same(t, x, &model{})
	}
}
