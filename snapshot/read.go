package snapshot

import (
	"slices"

	"lockstep/api"
	"lockstep/rowcode"
)

// reader goes through bytes as a writer puts them together. It gives up where it can't go on; whether all that it went through is as a writer has it, is not its to tell.
type reader struct{ rest []byte }

// spoilt is what a reader gives up with.
type spoilt struct{}

// read is the snapshot that bytes tell, and whether the reader came to its end. (Any other panic than the reader's would be a slip of this package's own: it is not hidden.)
func read(b []byte) (s api.Snap, whole bool) {
	defer func() {
		caught := recover()
		_, gaveUp := caught.(spoilt)
		if caught != nil && !gaveUp {
			panic(caught)
		}
	}()
	r := reader{b}
	return r.snap(), true
}

func (r *reader) snap() api.Snap {
	head := r.row(3)
	s := api.Snap{No: uint64(head[1].Int)}
	s.Tables = times(head[2].Int, r.table)
	s.More = r.bytes(r.row(2)[1].Int)
	return s
}

func (r *reader) table() api.Stored {
	head := r.row(7)
	t := api.Stored{Next: uint64(head[5].Int)}
	t.Form = api.Table{Name: head[0].Text, Part: int(head[1].Int), Most: int(head[2].Int)}
	t.Form.Cols = times(head[3].Int, r.column)
	t.Form.Keys = times(head[4].Int, r.key)
	t.Rows = times(head[6].Int, r.kept)
	return t
}

func (r *reader) column() api.Column {
	c := r.row(4)
	return api.Column{Name: c[0].Text, Type: int(c[1].Int), Most: int(c[2].Int), NotNull: c[3].Int == 1}
}

func (r *reader) key() api.Key {
	row := r.row(2)
	k := api.Key{Name: row[0].Text, Unique: row[1].Int == 1}
	for _, col := range row[2:] {
		k.Cols = append(k.Cols, int(col.Int))
	}
	return k
}

func (r *reader) kept() api.Kept {
	id := uint64(r.row(1)[0].Int)
	return api.Kept{ID: id, Row: r.row(0)}
}

// row is the next row, which has at least so many values.
func (r *reader) row(least int) api.Row {
	row, size, why := rowcode.ReadRow(r.rest)
	if why != api.OK || len(row) < least {
		panic(spoilt{})
	}
	r.rest = r.rest[size:]
	return row
}

// bytes is the next ones, so many.
func (r *reader) bytes(many int64) []byte {
	if many < 0 || many > int64(len(r.rest)) {
		panic(spoilt{})
	}
	b := slices.Clone(r.rest[:many])
	r.rest = r.rest[many:]
	return b
}

// times is what is read so many times. The list grows with what is there, as the number may say more than that.
func times[T any](many int64, next func() T) []T {
	var l []T
	for range many {
		l = append(l, next())
	}
	return l
}
