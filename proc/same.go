package proc

import (
	"slices"

	"lockstep/api"
	"lockstep/hash"
	"lockstep/value"
)

// Same tells whether two outcomes are one; Digest is an outcome's sum.
func Same(a, b api.Outcome) bool {
	sameRow := func(r, o api.Row) bool { return value.Rows(r, o) == 0 }
	sameRows := func(l, o []api.Row) bool { return slices.EqualFunc(l, o, sameRow) }
	return a.Err == b.Err && a.Step == b.Step && a.Text == b.Text &&
		slices.EqualFunc(a.Answers, b.Answers, sameRows)
}

func Digest(o api.Outcome) uint64 {
	d := digest(hash.Start)
	d.number(int64(o.Err))
	d.number(int64(o.Step))
	d.text(o.Text)
	d.count(len(o.Answers))
	for _, rows := range o.Answers {
		d.count(len(rows))
		for _, r := range rows {
			d.row(r)
		}
	}
	return uint64(d)
}

// digest is the hash of what it was told.
type digest uint64

func (d *digest) bytes(b ...byte) { *d = digest(hash.On(uint64(*d), b...)) }

// number tells all its bytes, the highest one first.
func (d *digest) number(n int64) {
	for shift := 56; shift >= 0; shift -= 8 {
		d.bytes(byte(n >> shift))
	}
}

func (d *digest) count(n int) { d.number(int64(n)) }

func (d *digest) text(s string) {
	d.count(len(s))
	d.bytes([]byte(s)...)
}

func (d *digest) row(r api.Row) {
	d.count(len(r))
	for _, v := range r {
		d.value(v)
	}
}

// value tells nothing of what a value's type does not name.
func (d *digest) value(v api.Value) {
	n, s := int64(0), ""
	switch v.Type {
	case api.BigInt, api.Dec, api.Bool:
		n = v.Int
	case api.Text:
		s = v.Text
	}
	d.bytes(byte(v.Type))
	d.number(n)
	d.text(s)
}
