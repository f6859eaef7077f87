package aggr_test

import (
	"bytes"
	"encoding/hex"
	"slices"
	"strings"
	"testing"

	"lockstep/aggr"
	"lockstep/api"
)

// written: Bytes of a part of these values is what the hexadecimal digits say.
func written(t *testing.T, k kind, l []api.Value, want ...string) {
	t.Helper()
	b, err := hex.DecodeString(strings.ReplaceAll(strings.Join(want, ""), " ", ""))
	if err != nil {
		t.Fatal(err)
	}
	if got := made(t, k, l...).Bytes(); !bytes.Equal(got, b) {
		t.Errorf("%v of %.100v: %x, not %x", k, l, got, b)
	}
}

// P14.4: Bytes, digit by digit as the chapters 14 and 2 have them.
func TestBytesByHand(t *testing.T) {
	const (
		count = "03 636f756e74 0000"
		sum   = "03 73756d 0000"
		avg   = "03 617667 0000"
		least = "03 6d696e 0000"
		most  = "03 6d6178 0000"
		no    = "0400"
		yes   = "0401"
		zero  = "02 80000000000000000000 01"
		one   = "02 80000000000000002710 01"
		two   = "02 80000000000000004e20 01"
		three = "02 80000000000000007530 01"
		four  = "02 80000000000000009c40 01"
		minus = "02 7fffffffffffffffd8f0 01"
		below = "02 8000270fffffffffd8f0 01" // 2^48 - 1
		part  = "02 80000000000000000001 02" // 0.0001
		end   = "00"
	)
	written(t, kind{"count", true, false, api.Null}, nil, count, yes, no, zero, zero, zero, end)
	written(t, kind{"count", true, false, api.Text}, []api.Value{null(), text("a"), num(1)}, count, yes, no, three, three, zero, end)
	written(t, kind{"count", false, false, api.Bool}, []api.Value{null(), truth(1)}, count, no, no, four, one, zero, end)
	written(t, kind{"count", false, true, api.BigInt}, nums(2, 1, 2), count, no, yes, one, two, two, end, one, two)
	written(t, kind{"sum", false, false, api.BigInt}, nil, sum, no, no, one, zero, two, end, zero, zero)
	written(t, kind{"sum", false, false, api.BigInt}, nums(1, 2), sum, no, no, one, two, two, end, zero, three)
	written(t, kind{"sum", false, false, api.BigInt}, nums(-1), sum, no, no, one, one, two, end, minus, below)
	written(t, kind{"sum", false, false, api.BigInt}, nums(1<<48, 2), sum, no, no, one, two, two, end, one, two)
	written(t, kind{"sum", false, false, api.Dec}, decs(1, 3), sum, no, no, two, two, two, end, zero, four)
	written(t, kind{"sum", false, false, api.Null}, []api.Value{null()}, sum, no, no, zero, zero, two, end, zero, zero)
	written(t, kind{"sum", false, true, api.Dec}, decs(1, 1), sum, no, yes, two, one, one, end, part)
	written(t, kind{"avg", false, false, api.BigInt}, nums(-1<<48, 1), avg, no, no, one, two, two, end, minus, one)
	written(t, kind{"avg", false, true, api.BigInt}, nums(2, -1), avg, no, yes, one, two, two, end, minus, two)
	written(t, kind{"min", false, false, api.BigInt}, nil, least, no, no, one, zero, zero, end)
	written(t, kind{"min", false, false, api.BigInt}, nums(2, 1, 3), least, no, no, one, three, one, end, one)
	written(t, kind{"min", false, true, api.Bool}, []api.Value{truth(1), truth(0), truth(1)}, least, no, yes, four, two, two, end, no, yes)
	written(t, kind{"max", false, false, api.Text}, []api.Value{text("a"), text("\x00")}, most, no, no, three, two, one, end, "03 61 0000")
	written(t, kind{"max", false, true, api.Text}, []api.Value{text("a"), text("\x00")}, most, no, yes, three, two, two, end, "03 00ff 0000", "03 61 0000")
}

// P14.4: Bytes of sums to the ends of what a part holds, and around the multiples of 2^48 on both sides of nought.
func TestBytesOfSums(t *testing.T) {
	for _, n := range []int64{0, 1, -1, 1<<48 - 1, 1 << 48, 1<<48 + 1, -1<<48 + 1, -1 << 48, -1<<48 - 1, 1 << 62, -1 << 62, greatest, least} {
		for _, typ := range []int{api.BigInt, api.Dec} {
			for _, agg := range []string{"sum", "avg"} {
				p, m := both(t, kind{agg, false, false, typ}, api.Value{Type: typ, Int: n})
				for i := range 40 {
					stands(t, p, m, "doubled", i, n)
					doubled(t, p, m, 1)
				}
				stands(t, p, m, "doubled", 40, n)
			}
		}
	}
	b := made(t, kind{"sum", false, false, api.BigInt}, nums(least, least)...).Bytes()
	if want := laid(head(kind{"sum", false, false, api.BigInt}, 2, 2), num(-65536), num(0)); !bytes.Equal(b, want) {
		t.Errorf("%x, not %x", b, want)
	}
}

// P14.4: Bytes does not hang on the order in which values were added, nor on how often, of distinct.
func TestBytesInOrder(t *testing.T) {
	for _, k := range kinds() {
		l := valuesOf(k.typ)
		l = l[:min(len(l), 6)]
		want := modelOf(k, l...).bytes()
		permutations(slices.Clone(l), func(l []api.Value) {
			p := made(t, k, l...)
			if b := p.Bytes(); !bytes.Equal(b, want) {
				t.Errorf("%v of %v: %x, not %x", k, l, b, want)
			}
			if k.distinct {
				for _, v := range l {
					ok(t, p.Add(stuffed(v)))
				}
				if b := p.Bytes(); !bytes.Equal(b, want) {
					t.Errorf("%v of %v twice: %x, not %x", k, l, b, want)
				}
			}
		})
	}
}

// The rule of memory: what Bytes answers is nobody else's, its spare room too.
func TestBytesMemory(t *testing.T) {
	for _, k := range kinds() {
		p, m := both(t, k, some(k.typ)...)
		a, b := p.Bytes(), p.Bytes()
		spoil(a)
		if !bytes.Equal(b, m.bytes()) {
			t.Errorf("%v: two answers share", k)
		}
		spoil(b)
		stands(t, p, m, "spoilt answers")
	}
}

func spoil(b []byte) {
	b = b[:cap(b)]
	for i := range b {
		b[i] ^= 0x55
	}
}

// The rule of memory: what Load is given is neither changed nor kept, its spare room included.
func TestLoadMemory(t *testing.T) {
	for _, k := range kinds() {
		m := modelOf(k, some(k.typ)...)
		b := append(m.bytes(), "spare room"...)
		was := slices.Clone(b)
		given := b[:len(b)-10]
		p, why := aggr.Load(given)
		ok(t, why, k)
		stands(t, p, m, "loaded")
		q, why := aggr.Load(given)
		ok(t, why, k)
		ok(t, q.Add(null()))
		ok(t, q.Merge(q))
		for _, v := range valuesOf(k.typ) {
			q.Add(v)
		}
		if !bytes.Equal(b, was) {
			t.Errorf("%v: changed", k)
		}
		spoil(b)
		stands(t, p, m, "spoilt bytes")
	}
}
