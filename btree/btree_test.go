package btree_test

import (
	"math"
	"math/rand"
	"slices"
	"strings"
	"testing"

	"lockstep/api"
	"lockstep/btree"
)

// P5.1: how many values a key may have.
func TestPutOfHowManyValues(t *testing.T) {
	for _, unique := range []bool{false, true} {
		x := btree.New(unique)
		for n, want := range []api.Errno{api.ErrArg, api.OK, api.OK, api.OK, api.OK, api.ErrArg, api.ErrArg} {
			if got := x.Put(slices.Repeat(row(whole(1)), n), 7); got != want {
				t.Errorf("Put of %d values: %v, not %v", n, got, want)
			}
		}
		if x.Put(api.Row{}, 7) != api.ErrArg {
			t.Error("an empty key")
		}
		if x.Len() != api.MaxKey {
			t.Error(x.Len())
		}
	}
}

// impossible are values that can't be, each with why.
func impossible() map[api.Errno][]api.Value {
	return map[api.Errno][]api.Value{
		api.ErrArg:  {{Type: 5}, {Type: -1}, {Type: math.MaxInt}, truth(2), truth(-1)},
		api.ErrLong: {text(strings.Repeat("a", api.MaxText+1)), text(strings.Repeat("\xff", api.MaxText+1))},
		api.ErrForm: {text("\xff"), text("a\xc3")},
	}
}

// P5.1: what can't be, in each place; the first one of several tells why.
func TestPutOfWhatCantBe(t *testing.T) {
	x := btree.New(false)
	for why, values := range impossible() {
		for _, v := range values {
			for at := range api.MaxKey {
				key := slices.Repeat(row(whole(1)), api.MaxKey)
				key[at] = v
				if got := x.Put(key, 1); got != why {
					t.Errorf("Put(%v): %v, not %v", key, got, why)
				}
				for other, behind := range impossible() {
					if at+1 == api.MaxKey || other == why {
						continue
					}
					key[at+1] = behind[0]
					if got := x.Put(key, 1); got != why {
						t.Errorf("Put(%v): %v, not %v", key, got, why)
					}
				}
			}
		}
	}
	if x.Len() != 0 || len(gone(x.Range(api.Bounds{}))) != 0 {
		t.Error("something is there")
	}
	put(t, x, row(text(strings.Repeat("a", api.MaxText))), 1)
}

// P5.1: one entry twice; one key under two numbers.
func TestPutTwice(t *testing.T) {
	x, u := btree.New(false), btree.New(true)
	for _, r := range []struct {
		key      api.Row
		id       uint64
		any, one api.Errno
	}{
		{row(whole(1), text("a")), 7, api.OK, api.OK},
		{row(whole(1), text("a")), 7, api.ErrTwice, api.ErrTwice},
		{row(whole(1), text("a")), 6, api.OK, api.ErrTwice},
		{row(whole(1), text("a")), 0, api.OK, api.ErrTwice},
		{row(whole(1), text("a")), math.MaxUint64, api.OK, api.ErrTwice},
		{row(whole(1), text("b")), 7, api.OK, api.OK},
		{row(whole(1)), 7, api.OK, api.OK},                         // the beginning of another key is one of its own
		{row(parts(10000), text("a")), 7, api.OK, api.OK},          // of one size, but not the same
		{row(whole(1), text("a"), api.Value{}), 7, api.OK, api.OK}, // with a NULL behind it
		{row(whole(1), text("a"), api.Value{}), 8, api.OK, api.OK}, // which is no other's key
		{row(whole(1), text("a"), api.Value{}), 7, api.ErrTwice, api.ErrTwice},
		{row(api.Value{}), 1, api.OK, api.OK},
		{row(api.Value{}), 2, api.OK, api.OK},
		{row(api.Value{}), 1, api.ErrTwice, api.ErrTwice},
		{row(api.Value{Int: 3, Text: "x"}), 2, api.ErrTwice, api.ErrTwice}, // a NULL, whatever else it has
		{row(api.Value{}, whole(1)), 1, api.OK, api.OK},
		{row(api.Value{}, whole(1)), 2, api.OK, api.OK},
		{row(api.Value{Type: api.BigInt, Int: 1, Text: "x"}), 7, api.ErrTwice, api.ErrTwice},
	} {
		if got := x.Put(r.key, r.id); got != r.any {
			t.Errorf("Put(%v, %d): %v, not %v", r.key, r.id, got, r.any)
		}
		if got := u.Put(r.key, r.id); got != r.one {
			t.Errorf("unique: Put(%v, %d): %v, not %v", r.key, r.id, got, r.one)
		}
	}
}

// P5.1: a tree that is full, in each order of coming.
func TestFull(t *testing.T) {
	for _, step := range []int{1, api.MaxRows - 1, 1031} {
		x := btree.New(true)
		for i := range api.MaxRows {
			put(t, x, row(whole(int64(i*step%api.MaxRows))), 9)
		}
		for _, r := range []struct {
			key  api.Row
			id   uint64
			want api.Errno
		}{
			{row(whole(api.MaxRows)), 9, api.ErrLong},
			{row(api.Value{}), 9, api.ErrLong},
			{row(whole(5)), 9, api.ErrTwice},
			{row(whole(5)), 8, api.ErrTwice},
			{row(text("\xff")), 9, api.ErrForm},
			{row(), 9, api.ErrArg},
		} {
			if got := x.Put(r.key, r.id); got != r.want {
				t.Errorf("Put(%v, %d): %v, not %v", r.key, r.id, got, r.want)
			}
		}
		if x.Len() != api.MaxRows || x.Count(api.Bounds{}) != api.MaxRows {
			t.Error(x.Len())
		}
		if !x.Drop(row(whole(5)), 9) || x.Put(row(whole(5)), 8) != api.OK || x.Put(row(whole(-1)), 8) != api.ErrLong {
			t.Error("room for one")
		}
	}
}

// P5.1: of several errors the one that is named first.
func TestPutOfSeveralErrors(t *testing.T) {
	x := btree.New(true)
	bad := text("\xff")
	long := text(strings.Repeat("a", api.MaxText+1))
	for _, r := range []struct {
		key  api.Row
		want api.Errno
	}{
		{row(bad, bad, bad, bad, bad), api.ErrArg},
		{row(bad, long), api.ErrForm},
		{row(long, bad), api.ErrLong},
		{row(whole(1), bad, truth(2)), api.ErrForm},
		{row(whole(1), truth(2), bad), api.ErrArg},
	} {
		if got := x.Put(r.key, 1); got != r.want {
			t.Errorf("Put(%v): %v, not %v", r.key, got, r.want)
		}
	}
}

// P5.1: what is dropped was there, under that key and that number.
func TestDrop(t *testing.T) {
	x := btree.New(false)
	for _, p := range []pair{{row(whole(1)), 3}, {row(whole(1)), 5}, {row(whole(1), whole(2)), 4}, {row(api.Value{}), 0}} {
		put(t, x, p.key, p.id)
	}
	for _, r := range []struct {
		key  api.Row
		id   uint64
		want bool
	}{
		{nil, 3, false}, {row(), 0, false},
		{row(whole(2)), 3, false}, {row(whole(1)), 4, false}, {row(whole(1), whole(2)), 3, false},
		{row(parts(10000)), 3, false}, {row(whole(1), whole(2), whole(3)), 4, false},
		{row(text("\xff")), 3, false}, {row(api.Value{Type: 9, Int: 1}), 3, false}, {row(truth(7)), 3, false},
		{slices.Repeat(row(whole(1)), 9), 3, false},
		{row(whole(1)), 3, true}, {row(whole(1)), 3, false},
		{row(api.Value{Int: 9}), 0, true}, {row(api.Value{}), 0, false},
		{row(api.Value{Type: api.BigInt, Int: 1, Text: "x"}), 5, true},
		{row(whole(1), whole(2)), 4, true}, {row(whole(1), whole(2)), 4, false},
	} {
		was := x.Len()
		if got := x.Drop(r.key, r.id); got != r.want {
			t.Errorf("Drop(%v, %d): %v, not %v", r.key, r.id, got, r.want)
		}
		if r.want {
			was--
		}
		if x.Len() != was {
			t.Errorf("behind Drop(%v, %d): %d, not %d", r.key, r.id, x.Len(), was)
		}
	}
	if btree.New(true).Drop(row(whole(1)), 0) {
		t.Error("dropped out of none")
	}
}

// P5.1: the numbers under a key, and under no key that begins with it.
func TestGet(t *testing.T) {
	x := btree.New(false)
	for _, id := range []uint64{math.MaxUint64, 1 << 63, 9, 2, 1, 0} {
		put(t, x, row(whole(1)), id)
	}
	put(t, x, row(whole(1), whole(1)), 7)
	put(t, x, row(api.Value{}), 6)
	put(t, x, row(api.Value{}), 5)
	for _, r := range []struct {
		key  api.Row
		want []uint64
	}{
		{row(whole(1)), []uint64{0, 1, 2, 9, 1 << 63, math.MaxUint64}},
		{row(api.Value{Type: api.BigInt, Int: 1, Text: "x"}), []uint64{0, 1, 2, 9, 1 << 63, math.MaxUint64}},
		{row(whole(1), whole(1)), []uint64{7}},
		{row(api.Value{}), []uint64{5, 6}},
		{row(parts(10000)), nil}, {row(whole(2)), nil}, {row(whole(1), api.Value{}), nil}, {row(), nil}, {nil, nil},
		{row(text("\xff")), nil}, {row(truth(5)), nil}, {row(api.Value{Type: 77}), nil},
		{slices.Repeat(row(whole(1)), 9), nil},
	} {
		if got := x.Get(r.key); !slices.Equal(got, r.want) {
			t.Errorf("Get(%v): %v, not %v", r.key, got, r.want)
		}
	}
}

// P5.1, P5.2: all goings of four calls, held against the model.
func TestAllShortGoings(t *testing.T) {
	type act struct {
		drop bool
		pair
	}
	var acts []act
	for _, key := range []api.Row{row(whole(1)), row(whole(1), text("a")), row(api.Value{}), row(parts(10000)), row(text("\xff"))} {
		for id := range uint64(2) {
			acts = append(acts, act{false, pair{key, id}}, act{true, pair{key, id}})
		}
	}
	var going func(x *btree.Tree, m *model, left int)
	going = func(x *btree.Tree, m *model, left int) {
		same(t, x, m)
		if left == 0 {
			return
		}
		for _, a := range acts {
			y, n := x.Clone(), m.clone()
			if a.drop {
				if got, want := y.Drop(a.key, a.id), n.drop(a.key, a.id); got != want {
					t.Fatalf("Drop(%v): %v of %v", a, got, m.list)
				}
			} else if got, want := y.Put(a.key, a.id), n.put(a.key, a.id); got != want {
				t.Fatalf("Put(%v): %v, not %v, of %v", a, got, want, m.list)
			}
			going(y, n, left-1)
		}
	}
	for _, unique := range []bool{false, true} {
		going(btree.New(unique), &model{unique: unique}, 4)
	}
}

// P5.1, P5.2: long goings, that grow, shrink and grow again.
func TestLongGoings(t *testing.T) {
	values := someValues()
	for seed := range int64(6) {
		r := rand.New(rand.NewSource(seed))
		x, m := btree.New(seed%3 == 0), &model{unique: seed%3 == 0}
		for i := range 3000 {
			key, id := someRow(r, values, 1, 3), uint64(r.Intn(5))
			if len(m.list) > 0 && r.Intn(3) == 0 {
				p := m.list[r.Intn(len(m.list))]
				key, id = p.key, p.id
			}
			if grows := i/600%2 == 0; r.Intn(4) > 0 == grows {
				if got, want := x.Put(key, id), m.put(key, id); got != want {
					t.Fatalf("Put(%v, %d): %v, not %v", key, id, got, want)
				}
			} else if got, want := x.Drop(key, id), m.drop(key, id); got != want {
				t.Fatalf("Drop(%v, %d): %v", key, id, got)
			}
			if i%100 == 0 {
				same(t, x, m)
			}
			sameSpan(t, x, m, someBounds(r, values))
		}
	}
}

// P5.1: nothing of what is handed in is kept or changed, and nothing of it that its type does not name.
func TestKeysHandedIn(t *testing.T) {
	x := btree.New(true)
	room := row(api.Value{Int: 4, Text: "n"}, api.Value{Type: api.Text, Text: "a", Int: 5}, api.Value{Type: api.BigInt, Int: 1, Text: "b"}, whole(77))
	was := slices.Clone(room)
	put(t, x, room[:3], 1)
	x.Get(room[:3])
	x.Drop(room[:3], 2)
	x.Put(room[:3], 1)
	if !slices.Equal(room, was) {
		t.Error("changed:", room)
	}
	room[0], room[1], room[2] = whole(1), whole(2), whole(3)
	want := []pair{{row(api.Value{}, text("a"), whole(1)), 1}}
	if got := gone(x.Range(api.Bounds{})); !exactly(got, want) {
		t.Error("kept:", got)
	}
	first, _, _ := x.First()
	last, _, _ := x.Last()
	if !slices.Equal(first, want[0].key) || !slices.Equal(last, want[0].key) {
		t.Error(first, last)
	}
}

// P5.1: what Get tells is new memory.
func TestGetIsNew(t *testing.T) {
	x := btree.New(false)
	for id := range uint64(40) {
		put(t, x, row(whole(1)), id)
	}
	a, b := x.Get(row(whole(1))), x.Get(row(whole(1)))
	clear(a[:cap(a)])
	if slices.Equal(a, b) || !slices.Equal(b, x.Get(row(whole(1)))) {
		t.Error("shared")
	}
}
