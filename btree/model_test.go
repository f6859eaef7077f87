package btree_test

import (
	"iter"
	"math/rand"
	"slices"
	"testing"

	"lockstep/api"
	"lockstep/btree"
	"lockstep/value"
)

// The model tells the promises in another way than the tree does: entries in one list as they came, which is looked through from end to end, and put in order whenever it is told.
type model struct {
	unique bool
	list   []pair
}

type pair struct {
	key api.Row
	id  uint64
}

func whole(n int64) api.Value    { return api.Value{Type: api.BigInt, Int: n} }
func parts(n int64) api.Value    { return api.Value{Type: api.Dec, Int: n} }
func text(s string) api.Value    { return api.Value{Type: api.Text, Text: s} }
func truth(n int64) api.Value    { return api.Value{Type: api.Bool, Int: n} }
func row(v ...api.Value) api.Row { return v }

func before(a, b pair) int {
	switch c := value.Rows(a.key, b.key); {
	case c != 0:
		return c
	case a.id < b.id:
		return -1
	case a.id > b.id:
		return 1
	}
	return 0
}

func (m *model) clone() *model { return &model{m.unique, slices.Clone(m.list)} }

func (m *model) at(key api.Row, id uint64) int {
	return slices.IndexFunc(m.list, func(p pair) bool { return before(p, pair{key, id}) == 0 })
}

func hasNull(key api.Row) bool {
	return slices.ContainsFunc(key, func(v api.Value) bool { return v.Type == api.Null })
}

func (m *model) put(key api.Row, id uint64) api.Errno {
	if len(key) < 1 || len(key) > 4 {
		return api.ErrArg
	}
	for _, v := range key {
		if why := value.Check(v); why != api.OK {
			return why
		}
	}
	if m.at(key, id) >= 0 || m.unique && !hasNull(key) && len(m.get(key)) > 0 {
		return api.ErrTwice
	}
	if len(m.list) >= 4096 {
		return api.ErrLong
	}
	m.list = append(m.list, pair{slices.Clone(key), id})
	return api.OK
}

func (m *model) drop(key api.Row, id uint64) bool {
	i := m.at(key, id)
	if i >= 0 {
		m.list = slices.Delete(slices.Clone(m.list), i, i+1)
	}
	return i >= 0
}

func (m *model) get(key api.Row) []uint64 {
	var ids []uint64
	for _, p := range m.list {
		if value.Rows(p.key, key) == 0 {
			ids = append(ids, p.id)
		}
	}
	slices.Sort(ids)
	return ids
}

// holds: side is 1 of Low, -1 of High.
func holds(key, end api.Row, in bool, side int) bool {
	if len(end) == 0 {
		return true
	}
	if len(key) > len(end) {
		key = key[:len(end)]
	}
	c := value.Rows(key, end)
	return c == side || in && c == 0
}

func (m *model) span(b api.Bounds) []pair {
	var l []pair
	for _, p := range m.list {
		if holds(p.key, b.Low, b.LowIn, 1) && holds(p.key, b.High, b.HighIn, -1) {
			l = append(l, p)
		}
	}
	slices.SortFunc(l, before)
	return l
}

func gone(s iter.Seq2[api.Row, uint64]) []pair {
	var l []pair
	for key, id := range s {
		l = append(l, pair{key, id})
	}
	return l
}

func turned(l []pair) []pair {
	l = slices.Clone(l)
	slices.Reverse(l)
	return l
}

// exactly: the same, to the last field.
func exactly(a, b []pair) bool {
	return slices.EqualFunc(a, b, func(a, b pair) bool { return a.id == b.id && slices.Equal(a.key, b.key) })
}

// sameSpan holds what a tree tells of one span against the model.
func sameSpan(t *testing.T, x *btree.Tree, m *model, b api.Bounds) {
	t.Helper()
	want := m.span(b)
	if got := gone(x.Range(b)); !exactly(got, want) {
		t.Fatalf("Range(%v): %v, not %v", b, got, want)
	}
	if got := gone(x.Back(b)); !exactly(got, turned(want)) {
		t.Fatalf("Back(%v): %v, not %v turned about", b, got, want)
	}
	if got := x.Count(b); got != len(want) {
		t.Fatalf("Count(%v): %d, not %d", b, got, len(want))
	}
}

// sameEnds holds First and Last against the model.
func sameEnds(t *testing.T, x *btree.Tree, m *model) {
	t.Helper()
	all := m.span(api.Bounds{})
	var first, last pair
	if len(all) > 0 {
		first, last = all[0], all[len(all)-1]
	}
	key, id, ok := x.First()
	if ok != (len(all) > 0) || !exactly([]pair{{key, id}}, []pair{first}) {
		t.Fatalf("First: %v %d %v of %v", key, id, ok, all)
	}
	key, id, ok = x.Last()
	if ok != (len(all) > 0) || !exactly([]pair{{key, id}}, []pair{last}) {
		t.Fatalf("Last: %v %d %v of %v", key, id, ok, all)
	}
}

// same holds all that a tree tells, but within bounds, against the model.
func same(t *testing.T, x *btree.Tree, m *model) {
	t.Helper()
	if x.Len() != len(m.list) {
		t.Fatalf("Len: %d, not %d", x.Len(), len(m.list))
	}
	sameSpan(t, x, m, api.Bounds{})
	sameEnds(t, x, m)
	for _, p := range m.list {
		if got := x.Get(p.key); !slices.Equal(got, m.get(p.key)) {
			t.Fatalf("Get(%v): %v, not %v", p.key, got, m.get(p.key))
		}
	}
}

// someValues are of each kind, some of them of one size or one beginning.
func someValues() []api.Value {
	return []api.Value{{}, whole(-1), whole(0), whole(1), parts(10000), parts(15000), whole(2), text(""), text("a"), text("aé"), text("b"), truth(0), truth(1)}
}

// lists are all rows of from one number to another of these values.
func lists(of []api.Value, from, to int) []api.Row {
	out, longest := []api.Row{}, []api.Row{nil}
	for n := 0; n <= to; n++ {
		if n >= from {
			out = append(out, longest...)
		}
		var next []api.Row
		for _, r := range longest {
			for _, v := range of {
				next = append(next, append(slices.Clone(r), v))
			}
		}
		longest = next
	}
	return out
}

func someRow(r *rand.Rand, of []api.Value, least, most int) api.Row {
	out := make(api.Row, least+r.Intn(most-least+1))
	for i := range out {
		out[i] = of[r.Intn(len(of))]
	}
	return out
}

func someBounds(r *rand.Rand, of []api.Value) api.Bounds {
	return api.Bounds{Low: someRow(r, of, 0, 5), High: someRow(r, of, 0, 5), LowIn: r.Intn(2) == 0, HighIn: r.Intn(2) == 0}
}

func put(t *testing.T, x *btree.Tree, key api.Row, id uint64) {
	t.Helper()
	if why := x.Put(key, id); why != api.OK {
		t.Fatalf("Put(%v, %d): %v", key, id, why)
	}
}
