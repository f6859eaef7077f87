package rowcode_test

import (
	"hash/fnv"
	"math/rand"
	"testing"

	"lockstep/api"
	"lockstep/rowcode"
)

func wantDigest(t *testing.T, d *rowcode.Digest, sum uint64, rows int64) {
	t.Helper()
	if d.Sum() != sum || d.Len() != rows {
		t.Errorf("%x of %d, not %x of %d", d.Sum(), d.Len(), sum, rows)
	}
}

// P2.4: Hash, by examples and against the library's.
func TestHash(t *testing.T) {
	for _, x := range []struct {
		s string
		h uint64
	}{
		{"", 0xcbf29ce484222325}, {"a", 0xaf63dc4c8601ec8c}, {"foobar", 0x85944171f73967e8}, {"\x00", 0xaf63bd4c8601b7df},
	} {
		if h := rowcode.Hash([]byte(x.s)); h != x.h {
			t.Errorf("Hash(%x): %x", x.s, h)
		}
	}
	rnd := rand.New(rand.NewSource(4))
	for range 2000 {
		b := make([]byte, rnd.Intn(40))
		rnd.Read(b)
		h := fnv.New64a()
		h.Write(b)
		if rowcode.Hash(b) != h.Sum64() {
			t.Errorf("Hash(%x): %x, not %x", b, rowcode.Hash(b), h.Sum64())
		}
	}
}

// P2.4: a Digest is the sum of the rows' hashes, and how many there are, below 0 also.
func TestDigest(t *testing.T) {
	one, two := api.Row{num(1), text("x")}, api.Row{null}
	hashOne, hashTwo := rowcode.Hash(rowBytes(one)), rowcode.Hash(rowBytes(two))
	var d rowcode.Digest
	wantDigest(t, &d, 0, 0)
	if why := d.Add(one); why != api.OK {
		t.Error(why)
	}
	wantDigest(t, &d, hashOne, 1)
	d.Add(one)
	wantDigest(t, &d, 2*hashOne, 2)
	d.Add(two)
	wantDigest(t, &d, 2*hashOne+hashTwo, 3)
	if why := d.Drop(one); why != api.OK {
		t.Error(why)
	}
	wantDigest(t, &d, hashOne+hashTwo, 2)
	d.Drop(one)
	d.Drop(one)
	wantDigest(t, &d, hashTwo-hashOne, 0)
	d.Drop(one)
	wantDigest(t, &d, hashTwo-2*hashOne, -1)
	var other rowcode.Digest
	other.Add(nil)
	wantDigest(t, &other, rowcode.Hash([]byte{0}), 1)
}

// P2.4: a row that can't be is refused as Row refuses it, and nothing else.
func TestDigestWrong(t *testing.T) {
	var d rowcode.Digest
	d.Add(api.Row{num(1)})
	sum := d.Sum()
	refused := func(r api.Row, why api.Errno) {
		t.Helper()
		if got := d.Add(r); got != why {
			t.Errorf("Add(%.60v): %v, not %v", r, got, why)
		}
		if got := d.Drop(r); got != why {
			t.Errorf("Drop(%.60v): %v, not %v", r, got, why)
		}
		wantDigest(t, &d, sum, 1)
		d.Add(r)
		wantDigest(t, &d, sum, 1)
		d.Drop(r)
		d.Drop(r)
		wantDigest(t, &d, sum, 1)
	}
	for _, x := range impossible() {
		refused(api.Row{x.v}, x.why)
		refused(api.Row{yes, x.v}, x.why)
	}
	refused(repeated(null, api.MaxCols+1), api.ErrLong)
	refused(repeated(api.Value{Type: 7}, api.MaxCols+1), api.ErrLong)
}

// P2.8: the order plays no part, and what came and went is as if it had not been.
func TestDigestComesAndGoes(t *testing.T) {
	rnd := rand.New(rand.NewSource(8))
	type change struct {
		row  api.Row
		drop bool
	}
	play := func(l []change) *rowcode.Digest {
		d := new(rowcode.Digest)
		for _, c := range l {
			if c.drop {
				d.Drop(c.row)
			} else {
				d.Add(c.row)
			}
		}
		return d
	}
	for range 500 {
		var stays, all []change
		for range rnd.Intn(6) {
			c := change{randomRow(rnd), rnd.Intn(3) == 0}
			stays = append(stays, c)
			all = append(all, c)
		}
		for range rnd.Intn(6) {
			r := randomRow(rnd)
			all = append(all, change{r, false}, change{r, true})
		}
		rnd.Shuffle(len(all), func(i, j int) { all[i], all[j] = all[j], all[i] })
		want := play(stays)
		wantDigest(t, play(all), want.Sum(), want.Len())
	}
}
