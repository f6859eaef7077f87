package btree_test

import (
	"math"
	"math/rand"
	"slices"
	"testing"

	"lockstep/api"
	"lockstep/btree"
)

// full is a tree with these keys, each under these numbers, put in a turned order; and its model.
func full(t *testing.T, keys []api.Row, ids ...uint64) (*btree.Tree, *model) {
	t.Helper()
	x, m := btree.New(false), &model{}
	for _, key := range slices.Backward(keys) {
		for _, id := range slices.Backward(ids) {
			put(t, x, key, id)
			m.put(key, id)
		}
	}
	return x, m
}

func numbers(l []pair) []uint64 {
	var ids []uint64
	for _, p := range l {
		ids = append(ids, p.id)
	}
	return ids
}

// P5.2: the document's example.
func TestExample(t *testing.T) {
	x := btree.New(false)
	put(t, x, row(whole(1), text("a")), 7)
	put(t, x, row(whole(1), text("b")), 3)
	put(t, x, row(whole(2), text("a")), 5)
	for _, r := range []struct {
		b    api.Bounds
		want []uint64
	}{
		{api.Bounds{Low: row(whole(1)), LowIn: true}, []uint64{7, 3, 5}},
		{api.Bounds{Low: row(whole(1))}, []uint64{5}},
		{api.Bounds{High: row(whole(1)), HighIn: true}, []uint64{7, 3}},
		{api.Bounds{Low: row(whole(1), text("b")), LowIn: true, High: row(whole(2))}, []uint64{3}},
	} {
		if got := numbers(gone(x.Range(r.b))); !slices.Equal(got, r.want) {
			t.Errorf("Range(%v): %v, not %v", r.b, got, r.want)
		}
		back := numbers(gone(x.Back(r.b)))
		slices.Reverse(back)
		if !slices.Equal(back, r.want) || x.Count(r.b) != len(r.want) {
			t.Errorf("Back(%v): %v, Count: %d, not %v", r.b, back, x.Count(r.b), r.want)
		}
	}
}

// P5.2: bounds by themselves: none, fewer values than the keys have, as many, more; with and without In; NULL; whole numbers and others; Low behind High.
func TestBounds(t *testing.T) {
	null := api.Value{}
	x, _ := full(t, []api.Row{row(null, whole(1)), row(whole(1)), row(whole(1), null), row(whole(1), whole(5)), row(parts(10000), whole(5)), row(parts(15000), whole(5)), row(whole(2), whole(5)), row(text("x"), whole(5)), row(truth(0), whole(5))}, 0)
	keys := gone(x.Range(api.Bounds{}))
	for _, r := range []struct {
		b        api.Bounds
		from, to int // of the keys above
	}{
		{api.Bounds{}, 0, 9}, {api.Bounds{LowIn: true, HighIn: true}, 0, 9}, {api.Bounds{Low: row(), High: row()}, 0, 9},
		{api.Bounds{Low: row(null)}, 1, 9}, {api.Bounds{Low: row(null), LowIn: true}, 0, 9},
		{api.Bounds{High: row(null)}, 0, 0}, {api.Bounds{High: row(null), HighIn: true}, 0, 1},
		{api.Bounds{Low: row(whole(1))}, 4, 9}, {api.Bounds{Low: row(whole(1)), LowIn: true}, 1, 9},
		{api.Bounds{High: row(whole(1))}, 0, 1}, {api.Bounds{High: row(whole(1)), HighIn: true}, 0, 4},
		{api.Bounds{Low: row(whole(1), null)}, 3, 9}, {api.Bounds{Low: row(whole(1), null), LowIn: true}, 2, 9},
		{api.Bounds{High: row(whole(1), null)}, 0, 2}, {api.Bounds{High: row(whole(1), null), HighIn: true}, 0, 3},
		{api.Bounds{Low: row(whole(1), whole(5), null), LowIn: true}, 4, 9}, // more values than the key: that comes ahead
		{api.Bounds{High: row(whole(1), whole(5), null)}, 0, 4},
		{api.Bounds{Low: row(parts(10000))}, 5, 9}, {api.Bounds{Low: row(parts(10000)), LowIn: true}, 4, 9},
		{api.Bounds{High: row(parts(10000))}, 0, 4}, {api.Bounds{High: row(parts(20000))}, 0, 7},
		{api.Bounds{High: row(parts(20000)), HighIn: true}, 0, 7}, {api.Bounds{Low: row(parts(14999)), High: row(parts(15001))}, 5, 6},
		{api.Bounds{Low: row(whole(math.MinInt64)), High: row(whole(math.MaxInt64))}, 1, 7},
		{api.Bounds{Low: row(text(""))}, 7, 9}, {api.Bounds{High: row(text(""))}, 0, 7}, {api.Bounds{Low: row(truth(0))}, 9, 9},
		{api.Bounds{Low: row(whole(2)), High: row(whole(1)), LowIn: true, HighIn: true}, 0, 0},
		{api.Bounds{Low: row(whole(1)), High: row(whole(1)), LowIn: true, HighIn: true}, 1, 4},
		{api.Bounds{Low: row(whole(1)), High: row(whole(1)), LowIn: true}, 0, 0},
		{api.Bounds{Low: row(whole(1)), High: row(whole(1))}, 0, 0},
		{api.Bounds{Low: row(whole(1)), High: row(whole(1), whole(5)), LowIn: true}, 1, 3},
		{api.Bounds{Low: row(api.Value{Type: 9})}, 0, 0}, {api.Bounds{High: row(api.Value{Type: 9})}, 0, 9}, // of no type: behind all
		{api.Bounds{Low: row(text("x\xff"))}, 8, 9}, {api.Bounds{High: row(truth(-1))}, 0, 8},
		{api.Bounds{Low: row(api.Value{Type: api.BigInt, Int: 1, Text: "z"})}, 4, 9}, // what the type does not name plays no part
		{api.Bounds{Low: slices.Repeat(row(whole(1)), 300)}, 3, 9},
	} {
		want := keys[r.from:r.to]
		if got := gone(x.Range(r.b)); !exactly(got, want) {
			t.Errorf("Range(%v): %v, not %v", r.b, got, want)
		}
		if got := gone(x.Back(r.b)); !exactly(got, turned(want)) {
			t.Errorf("Back(%v): %v, not %v turned about", r.b, got, want)
		}
		if got := x.Count(r.b); got != len(want) {
			t.Errorf("Count(%v): %d, not %d", r.b, got, len(want))
		}
	}
}

// P5.2: all bounds of up to three values against all keys of up to three.
func TestAllBounds(t *testing.T) {
	of := []api.Value{{}, whole(1), parts(10000), text("a")}
	x, m := full(t, lists(of, 1, 3), 2)
	ends := lists(of, 0, 3)
	for _, low := range ends {
		for _, high := range ends {
			for in := range 4 {
				sameSpan(t, x, m, api.Bounds{Low: low, High: high, LowIn: in&1 > 0, HighIn: in&2 > 0})
			}
		}
	}
}

// P5.2: bounds in a tree of many levels.
func TestBoundsOfMany(t *testing.T) {
	r := rand.New(rand.NewSource(5))
	values := someValues()
	x, m := btree.New(false), &model{}
	for len(m.list) < api.MaxRows {
		key, id := someRow(r, values, 1, 4), r.Uint64()
		if x.Put(key, id) == api.OK {
			m.list = append(m.list, pair{key, id})
		}
	}
	same(t, x, m)
	for range 400 {
		sameSpan(t, x, m, someBounds(r, values))
	}
}

// P5.2: the ends of none, of one, of many.
func TestEnds(t *testing.T) {
	x, m := btree.New(false), &model{}
	sameEnds(t, x, m)
	for i := range 200 {
		key, id := row(whole(int64(i*37%101)), text("a")), uint64(i)
		put(t, x, key, id)
		m.put(key, id)
		sameEnds(t, x, m)
	}
	for len(m.list) > 0 {
		p := m.span(api.Bounds{})[0]
		x.Drop(p.key, p.id)
		m.drop(p.key, p.id)
		sameEnds(t, x, m)
	}
	if key, id, ok := x.First(); len(key) != 0 || id != 0 || ok {
		t.Error(key, id, ok)
	}
	if key, id, ok := x.Last(); len(key) != 0 || id != 0 || ok {
		t.Error(key, id, ok)
	}
}

// P5.2: bounds are neither changed nor kept, though the going may come later.
func TestBoundsHandedIn(t *testing.T) {
	x, m := full(t, lists([]api.Value{whole(1), whole(2), whole(3)}, 1, 2), 4)
	low, high := row(whole(2), whole(2), whole(9)), row(whole(3), whole(1), whole(9))
	b := api.Bounds{Low: low[:2], High: high[:2], LowIn: true, HighIn: true}
	want := m.span(api.Bounds{Low: slices.Clone(low[:2]), High: slices.Clone(high[:2]), LowIn: true, HighIn: true})
	rising, falling := x.Range(b), x.Back(b)
	x.Count(b)
	gone(rising)
	gone(falling)
	if !slices.Equal(low, row(whole(2), whole(2), whole(9))) || !slices.Equal(high, row(whole(3), whole(1), whole(9))) {
		t.Error("changed:", low, high)
	}
	low[0], low[1], high[0], high[1] = whole(7), whole(7), whole(0), whole(0)
	if got := gone(rising); !exactly(got, want) {
		t.Error("kept by Range:", got)
	}
	if got := gone(falling); !exactly(got, turned(want)) {
		t.Error("kept by Back:", got)
	}
}

// P5.2: keys that are told are new memory, their spare room too.
func TestKeysToldAreNew(t *testing.T) {
	x, m := full(t, lists([]api.Value{whole(1), text("a")}, 1, 4), 4)
	spoil := func(key api.Row) {
		key = key[:cap(key)]
		for i := range key {
			key[i] = text("spoilt")
		}
	}
	told := gone(x.Range(api.Bounds{}))
	told = append(told, gone(x.Back(api.Bounds{}))...)
	for range 2 {
		first, _, _ := x.First()
		last, _, _ := x.Last()
		told = append(told, pair{first, 4}, pair{last, 4})
	}
	was := make([]api.Row, len(told))
	for i, p := range told {
		was[i] = slices.Clone(p.key)
	}
	for i, p := range told {
		spoil(p.key)
		for k := i + 1; k < len(told); k++ {
			if !slices.Equal(told[k].key, was[k]) {
				t.Fatalf("%v and %v share memory", was[i], was[k])
			}
		}
	}
	same(t, x, m)
	for key := range x.Range(api.Bounds{}) {
		spoil(key)
	}
	for key := range x.Back(api.Bounds{}) {
		spoil(key)
	}
	same(t, x, m)
}
