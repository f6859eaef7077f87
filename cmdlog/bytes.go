package cmdlog

import (
	"bytes"

	"lockstep/api"
	"lockstep/rowcode"
)

// mark is what each file begins with.
const mark = "LOCKSTEP"

// How many bytes things have.
const (
	numberSize = 8 // a number of a file or a record
	lengthSize = 4 // how many bytes a record has
	hashSize   = 8
	headSize   = len(mark) + numberSize + hashSize
)

// head is the bytes with which the file of a number begins.
func head(no uint64) []byte {
	b := putNumber([]byte(mark), no, numberSize)
	return putNumber(b, rowcode.Hash(b), hashSize)
}

// record is the bytes of a record in a file. Its number is not among them, but its Hash hangs on it: so no record is taken for another one.
func record(no uint64, text []byte) []byte {
	b := make([]byte, 0, numberSize+lengthSize+len(text)+hashSize)
	b = putNumber(b, no, numberSize)
	b = putNumber(b, uint64(len(text)), lengthSize)
	b = append(b, text...)
	return putNumber(b[numberSize:], rowcode.Hash(b), hashSize)
}

// readRecord is what the record of a number says, and whether bytes begin with such a one that is whole.
func readRecord(no uint64, b []byte) ([]byte, bool) {
	if len(b) < lengthSize {
		return nil, false
	}
	length := readNumber(b[:lengthSize])
	if length > api.MaxMessage || len(b)-lengthSize-hashSize < int(length) {
		return nil, false
	}
	text := b[lengthSize : lengthSize+int(length)]
	if !bytes.HasPrefix(b, record(no, text)) {
		return nil, false
	}
	return text, true
}

// putNumber puts a number behind bytes, in so many bytes, the highest first.
func putNumber(to []byte, n uint64, size int) []byte {
	for i := size - 1; i >= 0; i-- {
		to = append(to, byte(n>>(8*i)))
	}
	return to
}

// readNumber is the number that bytes say, the highest first.
func readNumber(b []byte) uint64 {
	n := uint64(0)
	for _, x := range b {
		n = n<<8 | uint64(x)
	}
	return n
}
