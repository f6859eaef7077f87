package exec

import (
	"maps"
	"slices"

	"lockstep/api"
	"lockstep/table"
)

// target is the table that a statement changes, and its form.
type target struct {
	*table.Table
	form *api.Table
}

// admits tells what is wrong with rows by themselves: a NULL in any of them ahead of a text that is too long.
func (t target) admits(rows ...api.Row) api.Errno {
	isLong := false
	for _, r := range rows {
		for i, v := range r {
			c := &t.form.Cols[i]
			if v.Type == api.Null && c.NotNull {
				return api.ErrNull
			}
			isLong = isLong || v.Type == api.Text && len(v.Text) > c.Most
		}
	}
	if isLong {
		return api.ErrLong
	}
	return api.OK
}

// insert puts a row in that the table admits. A key that is there is told ahead of a table that is full, other than a table tells it.
func (t target) insert(r api.Row) api.Errno {
	for no, k := range t.form.Keys {
		if k.Unique && t.has(no, keyOf(k, r)) {
			return api.ErrTwice
		}
	}
	_, why := t.Insert(r)
	return why
}

func keyOf(k api.Key, r api.Row) api.Row {
	key := make(api.Row, 0, len(k.Cols))
	for _, col := range k.Cols {
		key = append(key, r[col])
	}
	return key
}

// has tells whether there is a row of a key; one with a NULL in it is no other one's.
func (t target) has(no int, key api.Row) bool {
	isNull := func(v api.Value) bool { return v.Type == api.Null }
	ids, _ := t.Find(no, key)
	return len(ids) > 0 && !slices.ContainsFunc(key, isNull)
}

// replace lets rows come in the place of those of some numbers, which are as many. Where rows are in each other's way by a further key, they all go ahead of the first one that comes, under a new number.
func (t target) replace(ids []uint64, rows []api.Row) api.Errno {
	mark := t.Mark()
	var left []uint64
	var waiting []api.Row
	for _, k := range t.placed(ids, rows) {
		if t.Update(k.ID, k.Row) != api.OK {
			left, waiting = append(left, k.ID), append(waiting, k.Row)
		}
	}
	t.drop(left)
	for _, r := range waiting {
		if why := t.insert(r); why != api.OK {
			t.Back(mark)
			return why
		}
	}
	return api.OK
}

// placed is rows under the numbers of those in whose place they come: one goes where its primary key stands already, so that no two are in each other's way by that one, as they are if all keys move up by one.
func (t target) placed(ids []uint64, rows []api.Row) []api.Kept {
	open := make(map[uint64]struct{}, len(ids))
	for _, id := range ids {
		open[id] = struct{}{}
	}
	placed := make([]api.Kept, 0, len(rows))
	var rest []api.Row
	for _, r := range rows {
		id := t.primary(r)
		if _, is := open[id]; !is {
			rest = append(rest, r)
			continue
		}
		delete(open, id)
		placed = append(placed, api.Kept{ID: id, Row: r})
	}
	for i, id := range slices.Sorted(maps.Keys(open)) {
		placed = append(placed, api.Kept{ID: id, Row: rest[i]})
	}
	return placed
}

// primary is the number of the row that has the primary key of another one, 0 if there is none.
func (t target) primary(r api.Row) uint64 {
	ids, _ := t.Find(0, keyOf(t.form.Keys[0], r))
	if len(ids) == 0 {
		return 0
	}
	return ids[0]
}

func (t target) drop(ids []uint64) {
	for _, id := range ids {
		t.Delete(id)
	}
}
