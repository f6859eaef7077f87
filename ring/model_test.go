package ring_test

import (
	"bytes"
	"hash/fnv"
	"math/big"

	"lockstep/api"
)

// told is a value's bytes, as the chapter of rowcode has them.
func told(v api.Value) []byte {
	switch v.Type {
	case api.BigInt:
		return number(new(big.Int).Mul(big.NewInt(v.Int), big.NewInt(api.Scale)), 1)
	case api.Dec:
		return number(big.NewInt(v.Int), 2)
	case api.Text:
		b := append([]byte{3}, bytes.ReplaceAll([]byte(v.Text), []byte{0}, []byte{0, 0xff})...)
		return append(b, 0, 0)
	case api.Bool:
		return []byte{4, byte(v.Int)}
	}
	return []byte{1}
}

// number is the bytes of a number of ten-thousandths.
func number(n *big.Int, last byte) []byte {
	b := make([]byte, 12)
	b[0], b[11] = 2, last
	n.Add(n, new(big.Int).Lsh(big.NewInt(1), 79)).FillBytes(b[1:11])
	return b
}

// hashed is the hash of a value's bytes and of a byte part behind them, by the library's FNV-1a.
func hashed(v api.Value, part int) *big.Int {
	h := fnv.New64a()
	h.Write(append(told(v), byte(part)))
	return new(big.Int).SetUint64(h.Sum64())
}

// weighed is a Weight by whole numbers without bounds.
func weighed(v api.Value, part int) uint64 {
	times, _ := new(big.Int).SetString("11400714819323198485", 10)
	all := new(big.Int).Lsh(big.NewInt(1), 64)
	h := hashed(v, part)
	for i, down := range []int64{33, 29, 32} {
		shifted := new(big.Int).Div(h, new(big.Int).Exp(big.NewInt(2), big.NewInt(down), nil))
		h.Xor(h, shifted)
		if i < 2 {
			h.Mod(h.Mul(h, times), all)
		}
	}
	return h.Uint64()
}

// places is where a value belongs among 1, 2 .. 64 partitions: told for each number of them from all weights anew.
func places(v api.Value) [api.MaxParts + 1]int {
	var weights []uint64
	var l [api.MaxParts + 1]int
	for part := range api.MaxParts {
		weights = append(weights, weighed(v, part))
		if v.Type == api.Null {
			continue
		}
		for p := range weights {
			if weights[p] > weights[l[part+1]] {
				l[part+1] = p
			}
		}
	}
	return l
}
