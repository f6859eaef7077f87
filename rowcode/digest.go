package rowcode

import (
	"lockstep/api"
	"lockstep/hash"
)

// Hash is a number for bytes.
func Hash(b []byte) uint64 {
	return hash.On(hash.Start, b...)
}

// Digest is a number for rows that come and go, in whatever order; the zero Digest is of none.
type Digest struct {
	sum  uint64
	rows int64
}

// Add takes a row in.
func (d *Digest) Add(r api.Row) api.Errno {
	b, why := Row(r)
	if why != api.OK {
		return why
	}
	d.sum += Hash(b)
	d.rows++
	return api.OK
}

// Drop takes a row out, whether or not it was ever taken in.
func (d *Digest) Drop(r api.Row) api.Errno {
	b, why := Row(r)
	if why != api.OK {
		return why
	}
	d.sum -= Hash(b)
	d.rows--
	return api.OK
}

// Sum is the number.
func (d *Digest) Sum() uint64 {
	return d.sum
}

// Len is how many rows more came than went.
func (d *Digest) Len() int64 {
	return d.rows
}
