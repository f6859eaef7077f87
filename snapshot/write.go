package snapshot

import (
	"lockstep/api"
	"lockstep/rowcode"
)

// The texts with which a snapshot's bytes, and what else belongs to it, begin.
const (
	snapMark = "lockstep snapshot"
	moreMark = "more"
)

// writer puts a snapshot that was checked together, row by row.
type writer struct{ b []byte }

func (w *writer) snap(s api.Snap) {
	w.row(text(snapMark), bigint(s.No), bigint(len(s.Tables)))
	for _, t := range s.Tables {
		w.table(t)
	}
	w.row(text(moreMark), bigint(len(s.More)))
	w.b = append(w.b, s.More...)
	w.sum()
}

func (w *writer) table(t api.Stored) {
	f := t.Form
	part := max(f.Part, noPart)
	w.row(text(f.Name), bigint(part), bigint(f.Most), bigint(len(f.Cols)), bigint(len(f.Keys)), bigint(t.Next), bigint(len(t.Rows)))
	for _, c := range f.Cols {
		w.row(text(c.Name), bigint(c.Type), bigint(c.Most), truth(c.NotNull))
	}
	for _, k := range f.Keys {
		w.key(k)
	}
	for _, k := range t.Rows {
		w.row(bigint(k.ID))
		w.row(k.Row...)
	}
}

func (w *writer) key(k api.Key) {
	r := api.Row{text(k.Name), truth(k.Unique)}
	for _, col := range k.Cols {
		r = append(r, bigint(col))
	}
	w.row(r...)
}

// row puts a row behind what is there. What is too long already does not grow any more: it is refused, however long it would become.
func (w *writer) row(r ...api.Value) {
	if len(w.b) > mostBytes {
		return
	}
	b, _ := rowcode.Row(r) // what was checked can be a row
	w.b = append(w.b, b...)
}

// sum puts the Hash of all that is there behind it.
func (w *writer) sum() {
	h := rowcode.Hash(w.b)
	for shift := 56; shift >= 0; shift -= 8 {
		w.b = append(w.b, byte(h>>shift))
	}
}

// bigint is a number as a BIGINT: of one that is too great for that, the one of the same bits.
func bigint[N int | uint64](n N) api.Value { return api.Value{Type: api.BigInt, Int: int64(n)} }

func text(s string) api.Value { return api.Value{Type: api.Text, Text: s} }

func truth(is bool) api.Value {
	v := api.Value{Type: api.Bool}
	if is {
		v.Int = 1
	}
	return v
}
