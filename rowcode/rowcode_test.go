package rowcode_test

import (
	"bytes"
	"math"
	"math/big"
	"math/rand"
	"strings"
	"testing"
	"unicode/utf8"

	"lockstep/api"
	"lockstep/rowcode"
	"lockstep/value"
)

var (
	null = api.Value{}
	yes  = api.Value{Type: api.Bool, Int: 1}
	no   = api.Value{Type: api.Bool}
)

func num(n int64) api.Value { return api.Value{Type: api.BigInt, Int: n} }

func dec(n int64) api.Value { return api.Value{Type: api.Dec, Int: n} }

func text(s string) api.Value { return api.Value{Type: api.Text, Text: s} }

// edgeInts are numbers at the ends of ranges, of bytes, and of what is a multiple of ten thousand.
func edgeInts() []int64 {
	l := []int64{0, 1, 2, 127, 128, 9999, 10000, 10001, 20000, 922337203685477, 922337203685478, math.MaxInt64/10000*10000 - 1, math.MaxInt64 / 10000 * 10000, math.MaxInt64 - 1, math.MaxInt64}
	for shift := 8; shift < 63; shift += 8 {
		l = append(l, 1<<shift-1, 1<<shift)
	}
	for _, n := range l[:len(l):len(l)] {
		l = append(l, ^n, -n)
	}
	return l
}

// edgeTexts can be, all of them.
func edgeTexts() []string {
	return []string{
		"", "a", "ab", "b", "\x00", "\x00\x00", "a\x00", "a\x00b", "\x00a", "a\x01", "\x01", "\x02", "\x00\x01", "\x7f", "Größe", "ÿ", "\x00ÿ", "\u0100", "\ufffd", "\U0010ffff",
		strings.Repeat("x", api.MaxText), strings.Repeat("\x00", api.MaxText), strings.Repeat("é", api.MaxText/2), strings.Repeat("x", api.MaxText-1) + "\x00", strings.Repeat("\x00", api.MaxText-1),
	}
}

// possible are values that can be, of every type.
func possible() []api.Value {
	l := []api.Value{null, no, yes}
	for _, n := range edgeInts() {
		l = append(l, num(n), dec(n))
	}
	for _, s := range edgeTexts() {
		l = append(l, text(s))
	}
	return l
}

type wrong struct {
	v   api.Value
	why api.Errno
}

// impossible are values that can't be.
func impossible() []wrong {
	return []wrong{
		{api.Value{Type: -1}, api.ErrArg}, {api.Value{Type: 5, Int: 1}, api.ErrArg}, {api.Value{Type: math.MaxInt}, api.ErrArg}, {api.Value{Type: math.MinInt}, api.ErrArg},
		{api.Value{Type: api.Bool, Int: 2}, api.ErrArg}, {api.Value{Type: api.Bool, Int: -1}, api.ErrArg}, {api.Value{Type: api.Bool, Int: 256}, api.ErrArg},
		{text(strings.Repeat("x", api.MaxText+1)), api.ErrLong}, {text(strings.Repeat("\xff", api.MaxText+1)), api.ErrLong}, {text(strings.Repeat("\x00", api.MaxText+1)), api.ErrLong},
		{text("\xff"), api.ErrForm}, {text("a\xc3"), api.ErrForm}, {text("\xed\xa0\x80"), api.ErrForm}, {text("\x00\xff"), api.ErrForm}, {text(strings.Repeat("\xff", api.MaxText)), api.ErrForm},
	}
}

// partsOf is how many ten-thousandths a number is.
func partsOf(v api.Value) *big.Int {
	parts := big.NewInt(v.Int)
	if v.Type == api.BigInt {
		parts.Mul(parts, big.NewInt(10000))
	}
	return parts
}

// numberBytes are the bytes of so many ten-thousandths as a number of a type, whether or not it has such a one.
func numberBytes(parts *big.Int, kind byte) []byte {
	b := make([]byte, 12)
	b[0], b[11] = 2, kind
	new(big.Int).Add(parts, new(big.Int).Lsh(big.NewInt(1), 79)).FillBytes(b[1:11])
	return b
}

// textBytes are the bytes of a text, whether or not there can be such a one.
func textBytes(s string) []byte {
	return []byte("\x03" + strings.ReplaceAll(s, "\x00", "\x00\xff") + "\x00\x00")
}

// valueBytes are the bytes of a value, said as the chapter says them.
func valueBytes(v api.Value) []byte {
	switch v.Type {
	case api.BigInt:
		return numberBytes(partsOf(v), 1)
	case api.Dec:
		return numberBytes(partsOf(v), 2)
	case api.Text:
		return textBytes(v.Text)
	case api.Bool:
		return []byte{4, byte(v.Int)}
	}
	return []byte{1}
}

// sayRead is Read, said plainly: what a whole value would be is looked at when all of it is there.
func sayRead(b []byte) (api.Value, int, api.Errno) {
	if len(b) == 0 {
		return null, 0, api.ErrShort
	}
	switch b[0] {
	case 1:
		return null, 1, api.OK
	case 2:
		return sayNumber(b)
	case 3:
		return sayText(b)
	case 4:
		if len(b) == 1 {
			return null, 0, api.ErrShort
		}
		if b[1] == 0 || b[1] == 1 {
			return api.Value{Type: api.Bool, Int: int64(b[1])}, 2, api.OK
		}
	}
	return null, 0, api.ErrBytes
}

func sayNumber(b []byte) (api.Value, int, api.Errno) {
	if len(b) < 12 {
		return null, 0, api.ErrShort
	}
	n := new(big.Int).SetBytes(b[1:11])
	n.Sub(n, new(big.Int).Lsh(big.NewInt(1), 79))
	rest := new(big.Int)
	if b[11] == 1 {
		n.QuoRem(n, big.NewInt(10000), rest)
	}
	if b[11] < 1 || b[11] > 2 || rest.Sign() != 0 || !n.IsInt64() {
		return null, 0, api.ErrBytes
	}
	return api.Value{Type: int(b[11]), Int: n.Int64()}, 12, api.OK
}

func sayText(b []byte) (api.Value, int, api.Errno) {
	s := ""
	for at := 1; at+1 < len(b) || at < len(b) && b[at] != 0; {
		switch {
		case b[at] != 0:
			s, at = s+string(b[at:at+1]), at+1
		case b[at+1] == 0xff:
			s, at = s+"\x00", at+2
		case b[at+1] == 0 && len(s) <= api.MaxText && utf8.ValidString(s):
			return text(s), at + 2, api.OK
		default:
			return null, 0, api.ErrBytes
		}
	}
	return null, 0, api.ErrShort
}

func wantRead(t *testing.T, b []byte, v api.Value, n int, why api.Errno) {
	t.Helper()
	was := bytes.Clone(b)
	gotV, gotN, gotWhy := rowcode.Read(b)
	if gotV != v || gotN != n || gotWhy != why {
		t.Errorf("Read(%.60x): %.40v %d %v, not %.40v %d %v", b, gotV, gotN, gotWhy, v, n, why)
	}
	if !bytes.Equal(b, was) {
		t.Errorf("Read(%.60x) changed what it was given", was)
	}
}

// P2.1: the bytes of every kind of value.
func TestValue(t *testing.T) {
	for _, v := range possible() {
		b, why := rowcode.Value(v)
		if !bytes.Equal(b, valueBytes(v)) || why != api.OK {
			t.Errorf("Value(%.40v): %.60x %v, not %.60x", v, b, why, valueBytes(v))
		}
	}
}

// P2.1: bytes written out.
func TestValueExamples(t *testing.T) {
	for _, x := range []struct {
		v api.Value
		b string
	}{
		{null, "\x01"}, {no, "\x04\x00"}, {yes, "\x04\x01"},
		{num(1), "\x02\x80\x00\x00\x00\x00\x00\x00\x00\x27\x10\x01"},
		{dec(10000), "\x02\x80\x00\x00\x00\x00\x00\x00\x00\x27\x10\x02"},
		{num(0), "\x02\x80\x00\x00\x00\x00\x00\x00\x00\x00\x00\x01"},
		{num(-1), "\x02\x7f\xff\xff\xff\xff\xff\xff\xff\xd8\xf0\x01"},
		{dec(-1), "\x02\x7f\xff\xff\xff\xff\xff\xff\xff\xff\xff\x02"},
		{num(math.MinInt64), "\x02\x6c\x78\x00\x00\x00\x00\x00\x00\x00\x00\x01"},
		{num(math.MaxInt64), "\x02\x93\x87\xff\xff\xff\xff\xff\xff\xd8\xf0\x01"},
		{dec(math.MinInt64), "\x02\x7f\xff\x80\x00\x00\x00\x00\x00\x00\x00\x02"},
		{dec(math.MaxInt64), "\x02\x80\x00\x7f\xff\xff\xff\xff\xff\xff\xff\x02"},
		{text(""), "\x03\x00\x00"}, {text("a"), "\x03a\x00\x00"}, {text("\x00"), "\x03\x00\xff\x00\x00"}, {text("a\x00\x00b"), "\x03a\x00\xff\x00\xffb\x00\x00"}, {text("ÿ"), "\x03\xc3\xbf\x00\x00"},
	} {
		if b, why := rowcode.Value(x.v); string(b) != x.b || why != api.OK {
			t.Errorf("Value(%v): %x %v, not %x", x.v, b, why, x.b)
		}
		wantRead(t, []byte(x.b), x.v, len(x.b), api.OK)
	}
}

// P2.1: a value that can't be has no bytes.
func TestValueWrong(t *testing.T) {
	for _, x := range impossible() {
		if b, why := rowcode.Value(x.v); len(b) != 0 || why != x.why {
			t.Errorf("Value(%.40v): %.60x %v, not %v", x.v, b, why, x.why)
		}
	}
}

// P2.1: what a value's type does not name plays no part, and is not told.
func TestValueLitter(t *testing.T) {
	for _, x := range []struct{ v, clean api.Value }{
		{api.Value{Int: 1, Text: "\xff"}, null}, {api.Value{Type: api.BigInt, Int: 3, Text: "\xff"}, num(3)}, {api.Value{Type: api.Dec, Int: 3, Text: strings.Repeat("x", api.MaxText+1)}, dec(3)},
		{api.Value{Type: api.Text, Int: 7, Text: "a"}, text("a")}, {api.Value{Type: api.Bool, Int: 1, Text: "x"}, yes},
	} {
		b, why := rowcode.Value(x.v)
		if !bytes.Equal(b, valueBytes(x.clean)) || why != api.OK {
			t.Errorf("Value(%.40v): %x %v", x.v, b, why)
		}
		wantRead(t, b, x.clean, len(b), api.OK)
	}
}

// P2.2: bytes that end ahead of the value's end, at every place.
func TestReadShort(t *testing.T) {
	for _, v := range possible() {
		b := valueBytes(v)
		step := 1 + len(b)/600
		for n := 0; n < len(b); n += step {
			wantRead(t, b[:n], null, 0, api.ErrShort)
		}
		wantRead(t, b[:len(b)-1], null, 0, api.ErrShort)
	}
	// What the whole can't be is told of the whole alone.
	for _, b := range [][]byte{
		{2, 0xff, 0xff, 0xff, 0xff, 0xff, 0xff, 0xff, 0xff, 0xff, 0xff}, {2, 0}, {3, 0xff}, {3, 'a', 0xc3, 0}, []byte("\x03" + strings.Repeat("x", api.MaxText+1)), []byte("\x03" + strings.Repeat("\xff", api.MaxText+1) + "\x00"), {4},
	} {
		wantRead(t, b, null, 0, api.ErrShort)
	}
}

// P2.2: first bytes that no value has, whatever is behind.
func TestReadFirst(t *testing.T) {
	for first := range 256 {
		if first >= 1 && first <= 4 {
			continue
		}
		wantRead(t, []byte{byte(first)}, null, 0, api.ErrBytes)
		wantRead(t, append([]byte{byte(first)}, valueBytes(num(1))...), null, 0, api.ErrBytes)
	}
}

// P2.2: numbers of no type, of no whole, beyond their type's range.
func TestReadNumberWrong(t *testing.T) {
	for last := range 256 {
		if last != 1 && last != 2 {
			wantRead(t, numberBytes(big.NewInt(10000), byte(last)), null, 0, api.ErrBytes)
		}
	}
	for _, rest := range []int64{1, 2, 5000, 8192, 9999, -1, -9999} {
		for _, n := range edgeInts() {
			parts := partsOf(num(n))
			wantRead(t, numberBytes(parts.Add(parts, big.NewInt(rest)), 1), null, 0, api.ErrBytes)
		}
	}
	for _, x := range []struct {
		from api.Value
		step int64
	}{
		{num(math.MaxInt64), 10000}, {num(math.MinInt64), -10000}, {num(math.MaxInt64), 1}, {num(math.MinInt64), -1}, {num(math.MaxInt64), 10000 << 48}, {num(math.MinInt64), -10000 << 48},
		{dec(math.MaxInt64), 1}, {dec(math.MinInt64), -1}, {dec(math.MaxInt64), math.MaxInt64}, {dec(math.MinInt64), math.MinInt64},
	} {
		parts := partsOf(x.from)
		wantRead(t, numberBytes(parts, byte(x.from.Type)), x.from, 12, api.OK)
		wantRead(t, numberBytes(parts.Add(parts, big.NewInt(x.step)), byte(x.from.Type)), null, 0, api.ErrBytes)
	}
	for _, ends := range []byte{0x00, 0xff} {
		for kind := range byte(4) {
			wantRead(t, append(append([]byte{2}, bytes.Repeat([]byte{ends}, 10)...), kind), null, 0, api.ErrBytes)
		}
	}
}

// P2.2: a DECIMAL may be every number of ten-thousandths that a BIGINT can't.
func TestReadNumberOfOneType(t *testing.T) {
	parts := big.NewInt(10001)
	wantRead(t, numberBytes(parts, 1), null, 0, api.ErrBytes)
	wantRead(t, numberBytes(parts, 2), dec(10001), 12, api.OK)
	parts = partsOf(num(math.MaxInt64))
	wantRead(t, numberBytes(parts, 1), num(math.MaxInt64), 12, api.OK)
	wantRead(t, numberBytes(parts, 2), null, 0, api.ErrBytes)
}

// P2.2: texts that can't be.
func TestReadTextWrong(t *testing.T) {
	for behind := 1; behind < 255; behind++ {
		wantRead(t, []byte{3, 'a', 0, byte(behind)}, null, 0, api.ErrBytes)
		wantRead(t, []byte{3, 0, byte(behind), 0, 0}, null, 0, api.ErrBytes)
	}
	for _, s := range []string{strings.Repeat("x", api.MaxText), strings.Repeat("\x00", api.MaxText), strings.Repeat("é", api.MaxText/2)} {
		wantRead(t, textBytes(s), text(s), len(textBytes(s)), api.OK)
		wantRead(t, textBytes(s+"x"), null, 0, api.ErrBytes)
		wantRead(t, textBytes(s+"\x00"), null, 0, api.ErrBytes)
		wantRead(t, textBytes(s+s), null, 0, api.ErrBytes)
	}
	for _, s := range []string{"\xff", "a\xc3", "\xc3a", "\xed\xa0\x80", "\xc0\x80", "\xf4\x90\x80\x80", "\x80", "\xc3\x00", "\x00\xff"} {
		wantRead(t, textBytes(s), null, 0, api.ErrBytes)
	}
}

// P2.2: a BOOLEAN's other bytes.
func TestReadBoolWrong(t *testing.T) {
	for x := 2; x < 256; x++ {
		wantRead(t, []byte{4, byte(x)}, null, 0, api.ErrBytes)
	}
}

// P2.2: what stands behind a value plays no part.
func TestReadBehind(t *testing.T) {
	for _, v := range possible() {
		b := valueBytes(v)
		for _, behind := range []string{"\x00", "\x01", "\xff", "\x00\x00", "\xff\x00\x00", string(b)} {
			wantRead(t, append(bytes.Clone(b), behind...), v, len(b), api.OK)
		}
	}
}

// strayBytes are such as values are made of, in any order.
func strayBytes(rnd *rand.Rand) []byte {
	likely := []byte{0, 0, 1, 2, 2, 3, 3, 4, 0xff, 0xff, 'a', 0xc3, 0xa9, 0x7f, 0x80}
	b := make([]byte, rnd.Intn(20))
	for i := range b {
		b[i] = likely[rnd.Intn(len(likely))]
	}
	return b
}

// bent is bytes with one of them changed, put in or taken out.
func bent(rnd *rand.Rand, b []byte) []byte {
	b = bytes.Clone(b)
	at := rnd.Intn(len(b))
	switch rnd.Intn(4) {
	case 0:
		return append(b[:at], b[at+1:]...)
	case 1:
		return append(b[:at], append(strayBytes(rnd), b[at:]...)...)
	case 2:
		b[at] = byte(rnd.Intn(256))
	default:
		b[at] ^= 1 << rnd.Intn(8)
	}
	return b
}

// P2.2: whatever the bytes, Read is what is said plainly.
func TestReadStray(t *testing.T) {
	rnd := rand.New(rand.NewSource(2))
	var small []api.Value
	for _, v := range possible() {
		if len(v.Text) < 100 {
			small = append(small, v)
		}
	}
	for range 40000 {
		b := strayBytes(rnd)
		if rnd.Intn(2) == 0 {
			b = bent(rnd, valueBytes(small[rnd.Intn(len(small))]))
		}
		v, n, why := sayRead(b)
		wantRead(t, b, v, n, why)
	}
}

// P2.5: the bytes of values stand in the values' order, and none begins another.
func TestValuesInOrder(t *testing.T) {
	l := possible()
	for _, v := range l {
		a, _ := rowcode.Value(v)
		for _, w := range l {
			b, _ := rowcode.Value(w)
			if bytes.Compare(a, b) != value.Order(v, w) {
				t.Errorf("%.40v %.40v: %d, not %d", v, w, bytes.Compare(a, b), value.Order(v, w))
			}
			if v != w && bytes.HasPrefix(b, a) {
				t.Errorf("%.40v begins %.40v", v, w)
			}
		}
	}
}

// P2.5, P2.6: numbers of every size stand in their order, and come back.
func TestNumbersInOrder(t *testing.T) {
	rnd := rand.New(rand.NewSource(5))
	pick := func() api.Value {
		n := int64(rnd.Uint64()) >> rnd.Intn(64)
		if rnd.Intn(2) == 0 {
			return dec(n)
		}
		return num(n)
	}
	for range 20000 {
		v, w := pick(), pick()
		if rnd.Intn(4) == 0 {
			// A DECIMAL beside a BIGINT, or the same.
			v = num(rnd.Int63n(1 << 49))
			w = dec(v.Int*10000 + rnd.Int63n(3) - 1)
		}
		a, _ := rowcode.Value(v)
		b, _ := rowcode.Value(w)
		if bytes.Compare(a, b) != value.Order(v, w) {
			t.Errorf("%v %v: %x %x", v, w, a, b)
		}
		wantRead(t, a, v, len(a), api.OK)
		wantRead(t, b, w, len(b), api.OK)
	}
}

// P2.6: what Read takes is written as it was.
func TestReadIsWritten(t *testing.T) {
	rnd := rand.New(rand.NewSource(6))
	taken := 0
	for range 200000 {
		b := strayBytes(rnd)
		v, n, why := rowcode.Read(b)
		if why != api.OK {
			continue
		}
		taken++
		if w, why := rowcode.Value(v); !bytes.Equal(w, b[:n]) || why != api.OK {
			t.Errorf("Read(%x) is %v, which is %x %v", b, v, w, why)
		}
	}
	if taken < 10000 {
		t.Error(taken)
	}
}

// An answer is new memory, and stays as it is whatever becomes of the bytes.
func TestValueMemory(t *testing.T) {
	b, _ := rowcode.Value(text("abc"))
	v, _, _ := rowcode.Read(b)
	again, _ := rowcode.Value(text("abc"))
	clear(b[:cap(b)])
	if v != text("abc") || !bytes.Equal(again, textBytes("abc")) {
		t.Errorf("%v %x", v, again)
	}
}
