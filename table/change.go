package table

import (
	"slices"

	"lockstep/api"
	"lockstep/btree"
)

// change is what stood under a number ahead of it: nil, if it is the Insert that gave the number.
type change struct {
	id  uint64
	was api.Row
}

// Mark is a place in what was done.
func (t *Table) Mark() int { return len(t.done) }

// Back takes back all that was done since a mark.
func (t *Table) Back(mark int) api.Errno {
	if mark < 0 || mark > len(t.done) {
		return api.ErrState
	}
	for _, c := range slices.Backward(t.done[mark:]) {
		t.set(c.id, c.was)
		if c.was == nil {
			t.next = c.id
		}
	}
	clear(t.done[mark:]) // a list that is only cut would hold on to rows that nobody can ask for any more
	t.done = t.done[:mark]
	return api.OK
}

// Forget lets all stand that was done.
func (t *Table) Forget() { t.done = nil }

// change lets a row stand under a number, or none, so that it can be taken back.
func (t *Table) change(id uint64, now api.Row) {
	t.done = append(t.done, change{id: id, was: t.rows[id]})
	t.set(id, now)
}

// set lets a row stand under a number, and under each of its keys, in the place of what stood there; or none, if it is nil.
func (t *Table) set(id uint64, now api.Row) {
	was := t.rows[id]
	for i, k := range t.form.Keys {
		move(t.trees[i], id, k, was, now)
	}
	if now == nil {
		delete(t.rows, id)
		return
	}
	t.rows[id] = now
}

// move drops the old key ahead of putting the new one, as the tree may be full, and as the two may be the same.
func move(tree *btree.Tree, id uint64, k api.Key, was, now api.Row) {
	if was != nil {
		tree.Drop(keyOf(k, was), id)
	}
	if now != nil {
		tree.Put(keyOf(k, now), id)
	}
}
