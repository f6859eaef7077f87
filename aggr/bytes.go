package aggr

import (
	"bytes"
	"maps"
	"math"
	"slices"

	"lockstep/api"
	"lockstep/rowcode"
	"lockstep/value"
	"lockstep/wide"
)

// headValues is how many values the row has with which a part's bytes begin.
const headValues = 6

// cut is by what the first one of the two values is multiplied that tell a sum.
const cut = 1 << 48

// Bytes is a part as bytes.
func (p *Part) Bytes() []byte {
	told := p.told()
	// What a part holds was checked, so that neither a row nor a value is refused.
	b, _ := rowcode.Row(api.Row{text(p.agg), truth(p.star), truth(p.distinct), bigint(p.typ), bigint(p.count), bigint(len(told))})
	for _, v := range told {
		one, _ := rowcode.Value(v)
		b = append(b, one...)
	}
	return b
}

// told is the values that follow the row.
func (p *Part) told() []api.Value {
	switch {
	case p.distinct:
		return slices.SortedFunc(maps.Keys(p.once), value.Order)
	case p.sums():
		first, second := p.sum.Cut()
		return []api.Value{bigint(first), bigint(second)}
	case p.end.Type != api.Null:
		return []api.Value{p.end}
	}
	return nil
}

// Load is the part of bytes. What was read is written again, so that bytes that say the same otherwise than Bytes does are told by that.
func Load(b []byte) (*Part, api.Errno) {
	p, can := read(b)
	if !can || !bytes.Equal(p.Bytes(), b) {
		return nil, api.ErrBytes
	}
	return p, api.OK
}

// read is a part that bytes may tell, if there is one.
func read(b []byte) (*Part, bool) {
	head, size, why := rowcode.ReadRow(b)
	if why != api.OK || len(head) != headValues {
		return nil, false
	}
	p, why := New(head[0].Text, head[1].Int == 1, head[2].Int == 1, int(head[3].Int))
	if why != api.OK {
		return nil, false
	}
	told, can := readValues(b[size:])
	if !can || !p.fill(told) {
		return nil, false
	}
	if !p.distinct {
		p.count = int(head[4].Int)
	}
	return p, p.canBe()
}

// readValues is the values that bytes tell, one behind the other, if there are no more than a part tells.
func readValues(b []byte) ([]api.Value, bool) {
	var l []api.Value
	for len(b) > 0 {
		v, size, why := rowcode.Read(b)
		if why != api.OK || len(l) == mostOnce {
			return nil, false
		}
		l, b = append(l, v), b[size:]
	}
	return l, true
}

// fill lets a part that holds nothing hold what follows the row. Without distinct that tells no more than what the values came to; how many there were, only the row says.
func (p *Part) fill(told []api.Value) bool {
	if p.sums() && !p.distinct {
		if len(told) != 2 {
			return false
		}
		p.sum = wide.Of(told[0].Int).Times(cut).Plus(wide.Of(told[1].Int))
		return true
	}
	for _, v := range told {
		if p.Add(v) != api.OK {
			return false
		}
	}
	return true
}

// canBe tells whether there are values, as many as the part says, of which it holds what it does.
func (p *Part) canBe() bool {
	if p.count < 0 || p.count > p.most() {
		return false
	}
	if p.typ == api.Null && !p.star && p.count > 0 {
		return false
	}
	if p.ends() && (p.end.Type == api.Null) != (p.count == 0) {
		return false
	}
	least := wide.Of(math.MinInt64).Times(uint64(p.count))
	greatest := wide.Of(math.MaxInt64).Times(uint64(p.count))
	return p.sum.Order(least) >= 0 && p.sum.Order(greatest) <= 0
}

func bigint[N int | int64](n N) api.Value { return api.Value{Type: api.BigInt, Int: int64(n)} }

func text(s string) api.Value { return api.Value{Type: api.Text, Text: s} }

func truth(is bool) api.Value {
	v := api.Value{Type: api.Bool}
	if is {
		v.Int = 1
	}
	return v
}
