package ring

import (
	"lockstep/api"
	"lockstep/hash"
	"lockstep/rowcode"
)

// wanted is a value as partitions look at it.
type wanted struct {
	null bool
	seed uint64 // the hash of its bytes, with which those of all partitions begin, so that a long text is gone through once
}

// wantedOf is a value as partitions look at it; with an error, if it can't be.
func wantedOf(v api.Value) (wanted, api.Errno) {
	b, why := rowcode.Value(v)
	if why != api.OK {
		return wanted{}, why
	}
	return wanted{v.Type == api.Null, rowcode.Hash(b)}, api.OK
}

// wantedOfAll is all values of a list, or the error of the first one that can't be.
func wantedOfAll(l []api.Value) ([]wanted, api.Errno) {
	if len(l) > mostValues {
		return nil, api.ErrLong
	}
	all := make([]wanted, len(l))
	for i, v := range l {
		w, why := wantedOf(v)
		if why != api.OK {
			return nil, why
		}
		all[i] = w
	}
	return all, api.OK
}

// by is how much a partition wants it.
func (w wanted) by(part int) uint64 {
	return mixed(hash.On(w.seed, byte(part)))
}

// among is the partition, of so many, that it belongs to: the first one has NULL, however much others want it.
func (w wanted) among(parts int) int {
	if w.null {
		return 0
	}
	best, most := 0, w.by(0)
	for part := 1; part < parts; part++ {
		if much := w.by(part); much > most {
			best, most = part, much
		}
	}
	return best
}

// mixed spreads what a number's lowest bits say over all of its bits: the last byte of what was hashed has come to few of them.
func mixed(h uint64) uint64 {
	const times = 11400714819323198485
	h = (h ^ h>>33) * times
	h = (h ^ h>>29) * times
	return h ^ h>>32
}
