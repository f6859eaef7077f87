package table

import (
	"iter"
	"maps"
	"slices"

	"lockstep/api"
)

// Scan goes through all rows by their numbers.
func (t *Table) Scan() iter.Seq2[uint64, api.Row] {
	return t.through(func() []uint64 { return slices.Sorted(maps.Keys(t.rows)) })
}

// Range goes through the rows whose key lies between two bounds, by the key.
func (t *Table) Range(key int, b api.Bounds) (iter.Seq2[uint64, api.Row], api.Errno) {
	if !t.hasKey(key) {
		return nil, api.ErrNoKey
	}
	entries := t.trees[key].Range(b)
	return t.through(func() []uint64 {
		var ids []uint64
		for _, id := range entries {
			ids = append(ids, id)
		}
		return ids
	}), api.OK
}

// Rows is all rows with their numbers.
func (t *Table) Rows() []api.Kept {
	l := make([]api.Kept, 0, len(t.rows))
	for id, r := range t.Scan() {
		l = append(l, api.Kept{ID: id, Row: r})
	}
	return l
}

// through goes through the rows of some numbers, as they stand when it begins.
func (t *Table) through(numbers func() []uint64) iter.Seq2[uint64, api.Row] {
	return func(yield func(uint64, api.Row) bool) {
		for _, k := range t.standing(numbers()) {
			if !yield(k.ID, slices.Clone(k.Row)) {
				return
			}
		}
	}
}

// standing is the table's own rows of some numbers. They are all taken ahead of the first one that is told, since whoever is told may change the table.
func (t *Table) standing(ids []uint64) []api.Kept {
	l := make([]api.Kept, len(ids))
	for i, id := range ids {
		l[i] = api.Kept{ID: id, Row: t.rows[id]}
	}
	return l
}
