package rowcode

import (
	"bytes"
	"slices"

	"lockstep/api"
	"lockstep/value"
)

// rowEnd is less than every value's first byte, so that a row stands behind its beginning.
const rowEnd = 0

// A bag's bytes begin with how many rows it has.
const (
	maxBag     = 1 << 16
	countBytes = 4
)

// Row is a row as bytes.
func Row(r api.Row) ([]byte, api.Errno) {
	if len(r) > api.MaxCols {
		return nil, api.ErrLong
	}
	var b []byte
	for _, v := range r {
		if why := value.Check(v); why != api.OK {
			return nil, why
		}
		b = appendValue(b, v)
	}
	return append(b, rowEnd), api.OK
}

// ReadRow is the row with which bytes begin, and how many bytes it has.
func ReadRow(b []byte) (api.Row, int, api.Errno) {
	var r api.Row
	for at := 0; at < len(b); {
		if b[at] == rowEnd {
			return r, at + 1, api.OK
		}
		if len(r) == api.MaxCols {
			return nil, 0, api.ErrBytes
		}
		v, size, why := Read(b[at:])
		if why != api.OK {
			return nil, 0, why
		}
		r = append(r, v)
		at += size
	}
	return nil, 0, api.ErrShort
}

// Bag is rows as bytes that do not hang on their order.
func Bag(l []api.Row) ([]byte, api.Errno) {
	if len(l) > maxBag {
		return nil, api.ErrLong
	}
	rows := make([][]byte, len(l))
	for i, r := range l {
		b, why := Row(r)
		if why != api.OK {
			return nil, why
		}
		rows[i] = b
	}
	slices.SortFunc(rows, bytes.Compare)
	n := len(rows)
	b := []byte{byte(n >> 24), byte(n >> 16), byte(n >> 8), byte(n)}
	for _, r := range rows {
		b = append(b, r...)
	}
	return b, api.OK
}

// ReadBag is the rows of a bag's bytes.
func ReadBag(b []byte) ([]api.Row, api.Errno) {
	if len(b) < countBytes {
		return nil, api.ErrShort
	}
	count := uint32(b[0])<<24 | uint32(b[1])<<16 | uint32(b[2])<<8 | uint32(b[3])
	if count > maxBag {
		return nil, api.ErrBytes
	}
	// The list grows with what is read, as the count may say more than there is.
	var rows []api.Row
	var ahead []byte
	b = b[countBytes:]
	for range count {
		r, size, why := ReadRow(b)
		if why != api.OK {
			return nil, why
		}
		if bytes.Compare(b[:size], ahead) < 0 {
			return nil, api.ErrBytes
		}
		rows, ahead, b = append(rows, r), b[:size], b[size:]
	}
	if len(b) > 0 {
		return nil, api.ErrMore
	}
	return rows, api.OK
}
