package rowcode

import (
	"math/bits"

	"lockstep/api"
)

// A number's bytes: the first one, ten of its ten-thousandths, and that of its type.
const (
	partBytes   = 10
	numberBytes = 1 + partBytes + 1
	wholeType   = 1
	partsType   = 2
)

// The ten-thousandths stand in 80 bits, of which high are the upper 16, so that high counts in units of 2^64. In these, half is the 2^79 that is added to all of them, and least is how far the least BIGINT, -2^63, is below 0.
const (
	half  = 1 << 15
	least = api.Scale / 2
)

// signBit turns an int64 into how far it is above the least one, and back.
const signBit = 1 << 63

func appendNumber(to []byte, v api.Value) []byte {
	high, low, kind := partsOf(v)
	to = append(to, numberByte, byte(high>>8), byte(high))
	for shift := 56; shift >= 0; shift -= 8 {
		to = append(to, byte(low>>shift))
	}
	return append(to, kind)
}

// partsOf is how many ten-thousandths a number is, and 2^79, and the byte of its type.
func partsOf(v api.Value) (high, low uint64, kind byte) {
	if v.Type == api.Dec {
		return uint64(half + v.Int>>63), uint64(v.Int), partsType
	}
	high, low = bits.Mul64(uint64(v.Int)^signBit, api.Scale)
	return high + half - least, low, wholeType
}

func readNumber(b []byte) (api.Value, int, api.Errno) {
	if len(b) < numberBytes {
		return api.Value{}, 0, api.ErrShort
	}
	high := uint64(b[1])<<8 | uint64(b[2])
	low := uint64(0)
	for _, x := range b[3 : numberBytes-1] {
		low = low<<8 | uint64(x)
	}
	v, can := numberOf(high, low, b[numberBytes-1])
	if !can {
		return api.Value{}, 0, api.ErrBytes
	}
	return v, numberBytes, api.OK
}

// numberOf is the number that partsOf tells so, if there is one.
func numberOf(high, low uint64, kind byte) (api.Value, bool) {
	switch kind {
	case wholeType:
		return wholeOf(high, low)
	case partsType:
		v := api.Value{Type: api.Dec, Int: int64(low)}
		if high != uint64(half+v.Int>>63) {
			return api.Value{}, false
		}
		return v, true
	}
	return api.Value{}, false
}

func wholeOf(high, low uint64) (api.Value, bool) {
	// Below the least BIGINT this wraps round, and is too great, too.
	high -= half - least
	if high >= api.Scale {
		return api.Value{}, false
	}
	n, rest := bits.Div64(high, low, api.Scale)
	if rest != 0 {
		return api.Value{}, false
	}
	return api.Value{Type: api.BigInt, Int: int64(n ^ signBit)}, true
}
