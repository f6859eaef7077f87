package rowcode_test

import (
	"bytes"
	"encoding/binary"
	"math/rand"
	"slices"
	"strings"
	"testing"

	"lockstep/api"
	"lockstep/rowcode"
	"lockstep/value"
)

// rowBytes are the bytes of a row, said as the chapter says them.
func rowBytes(r api.Row) []byte {
	var b []byte
	for _, v := range r {
		b = append(b, valueBytes(v)...)
	}
	return append(b, 0)
}

// bagBytes are a count, and rows as they stand.
func bagBytes(count uint32, rows ...api.Row) []byte {
	b := binary.BigEndian.AppendUint32(nil, count)
	for _, r := range rows {
		b = append(b, rowBytes(r)...)
	}
	return b
}

func repeated(v api.Value, n int) api.Row {
	return slices.Repeat(api.Row{v}, n)
}

// someRows are of all lengths, many of them alike but for their ends.
func someRows() []api.Row {
	l := []api.Row{
		nil, {null}, {null, null}, {no}, {yes}, {yes, no}, {num(1)}, {num(1), null}, {num(1), num(1)}, {dec(10000)}, {num(2)}, {num(-1)}, {dec(-1)},
		{text("")}, {text(""), text("")}, {text(""), null}, {text("\x00")}, {text("\x00"), null}, {text("a")}, {text("a"), text("b")}, {text("ab")}, {text("a\x00")}, {text("a\x00b")}, {text("a"), num(-5)}, {text("a"), yes},
		{num(1), text("x"), yes}, {num(1), text("x"), no}, {num(1), text("x")}, {null, num(3)}, {null, text("")},
		{text(strings.Repeat("x", api.MaxText))}, {text(strings.Repeat("\x00", api.MaxText)), num(1)},
	}
	for n := 3; n <= api.MaxCols; n++ {
		l = append(l, repeated(null, n), repeated(num(int64(n)), n))
	}
	return l
}

func sameRow(a, b api.Row) bool { return slices.Equal(a, b) }

func sameRows(a, b []api.Row) bool { return slices.EqualFunc(a, b, sameRow) }

func wantReadRow(t *testing.T, b []byte, r api.Row, n int, why api.Errno) {
	t.Helper()
	was := bytes.Clone(b)
	gotR, gotN, gotWhy := rowcode.ReadRow(b)
	if !sameRow(gotR, r) || gotN != n || gotWhy != why {
		t.Errorf("ReadRow(%.60x): %.60v %d %v, not %.60v %d %v", b, gotR, gotN, gotWhy, r, n, why)
	}
	if !bytes.Equal(b, was) {
		t.Errorf("ReadRow(%.60x) changed what it was given", was)
	}
}

func wantReadBag(t *testing.T, b []byte, l []api.Row, why api.Errno) {
	t.Helper()
	was := bytes.Clone(b)
	got, gotWhy := rowcode.ReadBag(b)
	if !sameRows(got, l) || gotWhy != why {
		t.Errorf("ReadBag(%.60x): %.60v %v, not %.60v %v", b, got, gotWhy, l, why)
	}
	if !bytes.Equal(b, was) {
		t.Errorf("ReadBag(%.60x) changed what it was given", was)
	}
}

func wantBag(t *testing.T, l []api.Row, b []byte, why api.Errno) {
	t.Helper()
	got, gotWhy := rowcode.Bag(l)
	if !bytes.Equal(got, b) || gotWhy != why {
		t.Errorf("Bag(%.60v): %.60x %v, not %.60x %v", l, got, gotWhy, b, why)
	}
}

// P2.1: the bytes of rows, up to MaxCols values.
func TestRow(t *testing.T) {
	for _, r := range someRows() {
		b, why := rowcode.Row(r)
		if !bytes.Equal(b, rowBytes(r)) || why != api.OK {
			t.Errorf("Row(%.60v): %.60x %v, not %.60x", r, b, why, rowBytes(r))
		}
	}
	for _, x := range []struct {
		r api.Row
		b string
	}{
		{nil, "\x00"}, {api.Row{}, "\x00"}, {api.Row{null}, "\x01\x00"}, {api.Row{text("a"), no}, "\x03a\x00\x00\x04\x00\x00"},
	} {
		if b, why := rowcode.Row(x.r); string(b) != x.b || why != api.OK {
			t.Errorf("Row(%v): %x %v", x.r, b, why)
		}
	}
}

// P2.1: a row that is too long, and ahead of what its values are; else the first value that can't be.
func TestRowWrong(t *testing.T) {
	want := func(r api.Row, why api.Errno) {
		t.Helper()
		if b, got := rowcode.Row(r); len(b) != 0 || got != why {
			t.Errorf("Row(%.60v): %.60x %v, not %v", r, b, got, why)
		}
	}
	want(repeated(null, api.MaxCols+1), api.ErrLong)
	want(repeated(null, 1000), api.ErrLong)
	want(repeated(api.Value{Type: 9}, api.MaxCols+1), api.ErrLong)
	want(repeated(api.Value{Type: 9}, api.MaxCols), api.ErrArg)
	for _, x := range impossible() {
		want(api.Row{x.v}, x.why)
		want(api.Row{num(1), x.v, null}, x.why)
		for _, y := range impossible() {
			want(api.Row{null, x.v, y.v}, x.why)
		}
		want(append(repeated(yes, api.MaxCols-1), x.v), x.why)
		want(append(repeated(yes, api.MaxCols), x.v), api.ErrLong)
	}
}

// P2.3, P2.6: rows come back, whatever stands behind.
func TestReadRow(t *testing.T) {
	for _, r := range someRows() {
		b := rowBytes(r)
		for _, behind := range []string{"", "\x00", "\x01", "\xff", "\x01\x00", "\x03a"} {
			wantReadRow(t, append(bytes.Clone(b), behind...), r, len(b), api.OK)
		}
	}
}

// P2.3: rows that end too early, at every place.
func TestReadRowShort(t *testing.T) {
	for _, r := range someRows() {
		b := rowBytes(r)
		step := 1 + len(b)/600
		for n := 0; n < len(b); n += step {
			wantReadRow(t, b[:n], nil, 0, api.ErrShort)
		}
		wantReadRow(t, b[:len(b)-1], nil, 0, api.ErrShort)
	}
	wantReadRow(t, bytes.Repeat([]byte{1}, api.MaxCols), nil, 0, api.ErrShort)
}

// P2.3: a 17th value can't begin, whatever it is; nor can a value that can't be read.
func TestReadRowWrong(t *testing.T) {
	full := bytes.Repeat([]byte{1}, api.MaxCols)
	wantReadRow(t, append(bytes.Clone(full), 0), repeated(null, api.MaxCols), api.MaxCols+1, api.OK)
	for first := 1; first < 256; first++ {
		wantReadRow(t, append(bytes.Clone(full), byte(first)), nil, 0, api.ErrBytes)
		wantReadRow(t, append(bytes.Clone(full), byte(first), 0), nil, 0, api.ErrBytes)
	}
	for first := 5; first < 256; first++ {
		wantReadRow(t, []byte{byte(first)}, nil, 0, api.ErrBytes)
		wantReadRow(t, []byte{1, byte(first), 0}, nil, 0, api.ErrBytes)
	}
	for _, b := range [][]byte{numberBytes(partsOf(num(1)), 3), numberBytes(partsOf(dec(1)), 1), {3, 0, 1}, {3, 0xff, 0, 0}, {4, 2}, textBytes(strings.Repeat("x", api.MaxText+1))} {
		wantReadRow(t, b, nil, 0, api.ErrBytes)
		wantReadRow(t, append([]byte{1, 4, 1}, append(b, 0)...), nil, 0, api.ErrBytes)
	}
	// The first fault from the left is told.
	wantReadRow(t, []byte{1, 4, 2, 2}, nil, 0, api.ErrBytes)
	wantReadRow(t, []byte{1, 3, 'a', 5}, nil, 0, api.ErrShort)
}

// P2.1: bags, in whatever order their rows are told.
func TestBag(t *testing.T) {
	one, two := api.Row{num(1)}, api.Row{num(2)}
	wantBag(t, nil, []byte{0, 0, 0, 0}, api.OK)
	wantBag(t, []api.Row{}, []byte{0, 0, 0, 0}, api.OK)
	wantBag(t, []api.Row{nil}, []byte{0, 0, 0, 1, 0}, api.OK)
	wantBag(t, []api.Row{{}, nil, {}}, []byte{0, 0, 0, 3, 0, 0, 0}, api.OK)
	wantBag(t, []api.Row{two, one}, bagBytes(2, one, two), api.OK)
	wantBag(t, []api.Row{two, one, two}, bagBytes(3, one, two, two), api.OK)
	wantBag(t, []api.Row{{text("a")}, {text("a"), null}, {null}, nil}, bagBytes(4, nil, api.Row{null}, api.Row{text("a")}, api.Row{text("a"), null}), api.OK)
	// So many that each byte of the count is told, and one at its own place.
	for _, n := range []int{255, 256, 257, 65535, 65536} {
		wantBag(t, slices.Repeat([]api.Row{one}, n), bagBytes(uint32(n), slices.Repeat([]api.Row{one}, n)...), api.OK)
	}
}

// P2.1: a bag that has too many rows, ahead of what they are; else the first row's error.
func TestBagWrong(t *testing.T) {
	wantBag(t, make([]api.Row, 65536), append([]byte{0, 1, 0, 0}, make([]byte, 65536)...), api.OK)
	wantBag(t, make([]api.Row, 65537), nil, api.ErrLong)
	arg, long, form := api.Row{{Type: 9}}, repeated(null, api.MaxCols+1), api.Row{text("\xff")}
	wantBag(t, slices.Repeat([]api.Row{arg}, 65537), nil, api.ErrLong)
	wantBag(t, slices.Repeat([]api.Row{arg}, 65536), nil, api.ErrArg)
	wantBag(t, []api.Row{{num(2)}, arg, long, form}, nil, api.ErrArg)
	wantBag(t, []api.Row{long, form, arg}, nil, api.ErrLong)
	wantBag(t, []api.Row{{yes}, {no}, form, arg}, nil, api.ErrForm)
	wantBag(t, []api.Row{{yes}, {no, {Type: api.Bool, Int: 2}}}, nil, api.ErrArg)
}

// P2.3: bags are read as they stand, rows that are there more than once among them.
func TestReadBag(t *testing.T) {
	one, two := api.Row{num(1)}, api.Row{num(2), text("x\x00")}
	wantReadBag(t, []byte{0, 0, 0, 0}, nil, api.OK)
	wantReadBag(t, []byte{0, 0, 0, 1, 0}, []api.Row{nil}, api.OK)
	wantReadBag(t, bagBytes(1, one), []api.Row{one}, api.OK)
	wantReadBag(t, bagBytes(5, nil, nil, one, two, two), []api.Row{nil, nil, one, two, two}, api.OK)
	wantReadBag(t, bagBytes(65536, make([]api.Row, 65536)...), make([]api.Row, 65536), api.OK)
	wantReadBag(t, bagBytes(300, slices.Repeat([]api.Row{two}, 300)...), slices.Repeat([]api.Row{two}, 300), api.OK)
}

// P2.3: bags that end too early, at every place.
func TestReadBagShort(t *testing.T) {
	b := bagBytes(4, nil, api.Row{null, num(7), yes}, api.Row{text("a\x00b")}, api.Row{text("b"), dec(-3)})
	for n := range len(b) {
		wantReadBag(t, b[:n], nil, api.ErrShort)
	}
	wantReadBag(t, bagBytes(65536), nil, api.ErrShort)
	wantReadBag(t, bagBytes(2, api.Row{null}), nil, api.ErrShort)
}

// P2.3: bags that can't be, each with the fault that comes first.
func TestReadBagWrong(t *testing.T) {
	one, two := api.Row{num(1)}, api.Row{num(2)}
	for _, count := range []uint32{65537, 1 << 17, 1 << 24, 1 << 31, 1<<32 - 1} {
		wantReadBag(t, bagBytes(count), nil, api.ErrBytes)
		wantReadBag(t, append(bagBytes(count), make([]byte, 65537)...), nil, api.ErrBytes)
	}
	wantReadBag(t, bagBytes(2, two, one), nil, api.ErrBytes)
	wantReadBag(t, bagBytes(3, one, two, one), nil, api.ErrBytes)
	wantReadBag(t, bagBytes(2, one, nil), nil, api.ErrBytes)
	wantReadBag(t, bagBytes(2, api.Row{dec(10000)}, one), nil, api.ErrBytes)
	wantReadBag(t, bagBytes(2, api.Row{one[0], null}, one), nil, api.ErrBytes)
	wantReadBag(t, append(bagBytes(2, one), 9), nil, api.ErrBytes)
	wantReadBag(t, append(bagBytes(1), append(bytes.Repeat([]byte{1}, 17), 0)...), nil, api.ErrBytes)
	// Row by row: what is wrong with an earlier row is told ahead of what is wrong with a later one.
	wantReadBag(t, bagBytes(3, two, one), nil, api.ErrBytes)
	wantReadBag(t, append(bagBytes(3, one, two), 1), nil, api.ErrShort)
	wantReadBag(t, append(bagBytes(2, two), 2, 0x80), nil, api.ErrShort)
	wantReadBag(t, append(bagBytes(2, two, one), 9), nil, api.ErrBytes)
}

// P2.3: something behind the last row.
func TestReadBagMore(t *testing.T) {
	one, two := api.Row{num(1)}, api.Row{num(2)}
	wantReadBag(t, []byte{0, 0, 0, 0, 0}, nil, api.ErrMore)
	wantReadBag(t, []byte{0, 0, 0, 0, 9}, nil, api.ErrMore)
	wantReadBag(t, bagBytes(1, one, two), nil, api.ErrMore)
	wantReadBag(t, bagBytes(1, two, one), nil, api.ErrMore)
	wantReadBag(t, append(bagBytes(2, one, two), 0), nil, api.ErrMore)
	wantReadBag(t, bagBytes(65536, make([]api.Row, 65537)...), nil, api.ErrMore)
}

// P2.5: the bytes of rows stand in the rows' order, and none begins another.
func TestRowsInOrder(t *testing.T) {
	l := someRows()
	for _, r := range l {
		a, _ := rowcode.Row(r)
		for _, s := range l {
			b, _ := rowcode.Row(s)
			if bytes.Compare(a, b) != value.Rows(r, s) {
				t.Errorf("%.60v %.60v: %d, not %d", r, s, bytes.Compare(a, b), value.Rows(r, s))
			}
			if !sameRow(r, s) && bytes.HasPrefix(b, a) {
				t.Errorf("%.60v begins %.60v", r, s)
			}
		}
	}
}

// randomRow is a row of few values of few kinds, so that many of them are alike.
func randomRow(rnd *rand.Rand) api.Row {
	kinds := []api.Value{null, no, yes, num(0), num(1), num(-1), dec(0), dec(10000), dec(9999), dec(-1), text(""), text("\x00"), text("a"), text("a\x00"), text("aé")}
	var r api.Row
	for range rnd.Intn(4) {
		r = append(r, kinds[rnd.Intn(len(kinds))])
	}
	return r
}

// P2.5, P2.6: rows made at random are ordered as they are, and come back.
func TestRandomRows(t *testing.T) {
	rnd := rand.New(rand.NewSource(25))
	for range 20000 {
		r, s := randomRow(rnd), randomRow(rnd)
		a, _ := rowcode.Row(r)
		b, _ := rowcode.Row(s)
		if bytes.Compare(a, b) != value.Rows(r, s) {
			t.Errorf("%v %v: %x %x", r, s, a, b)
		}
		wantReadRow(t, append(bytes.Clone(a), b...), r, len(a), api.OK)
	}
}

// P2.6: what ReadRow takes is written as it was.
func TestReadRowIsWritten(t *testing.T) {
	rnd := rand.New(rand.NewSource(26))
	taken := 0
	for range 300000 {
		b := strayBytes(rnd)
		r, n, why := rowcode.ReadRow(b)
		if why != api.OK {
			continue
		}
		taken++
		if w, why := rowcode.Row(r); !bytes.Equal(w, b[:n]) || why != api.OK {
			t.Errorf("ReadRow(%x) is %v, which is %x %v", b, r, w, why)
		}
	}
	if taken < 10000 {
		t.Error(taken)
	}
}

// P2.7: the same bag just if the one list is the other one in some order; read, it is in the order of value.Rows.
func TestBags(t *testing.T) {
	rnd := rand.New(rand.NewSource(7))
	for range 5000 {
		l := make([]api.Row, rnd.Intn(5))
		for i := range l {
			l[i] = randomRow(rnd)
		}
		m := slices.Clone(l)
		rnd.Shuffle(len(m), func(i, j int) { m[i], m[j] = m[j], m[i] })
		if len(m) > 0 && rnd.Intn(2) == 0 {
			m[rnd.Intn(len(m))] = randomRow(rnd)
		}
		inOrderL, inOrderM := slices.Clone(l), slices.Clone(m)
		slices.SortFunc(inOrderL, value.Rows)
		slices.SortFunc(inOrderM, value.Rows)
		a, whyA := rowcode.Bag(l)
		b, whyB := rowcode.Bag(m)
		if whyA != api.OK || whyB != api.OK || bytes.Equal(a, b) != sameRows(inOrderL, inOrderM) {
			t.Errorf("%v %v: %x %v %x %v", l, m, a, whyA, b, whyB)
		}
		wantReadBag(t, a, inOrderL, api.OK)
	}
}

// P2.7: rows that run into one another if put end to end, and still are not the same bag.
func TestBagsApart(t *testing.T) {
	seen := map[string]int{}
	for i, l := range [][]api.Row{
		nil, {nil}, {nil, nil}, {{null}}, {{null}, nil}, {{null}, {null}}, {{null, null}}, {{null, null}, nil}, {{text("")}}, {{text(""), null}}, {{text("")}, {null}}, {{text("\x00")}}, {{num(1)}}, {{dec(10000)}}, {{num(1)}, {num(1)}},
	} {
		b, why := rowcode.Bag(l)
		if j, twice := seen[string(b)]; twice || why != api.OK {
			t.Errorf("%v: %x %v, as %d", l, b, why, j)
		}
		seen[string(b)] = i
	}
}

// spoil writes over all of a row, its spare room too.
func spoil(r api.Row) {
	for i := range r[:cap(r)] {
		r[:cap(r)][i] = text("spoilt")
	}
}

// Lists that are handed in stay as they are, and lists that are answered share no memory.
func TestRowMemory(t *testing.T) {
	l := []api.Row{{num(2), text("b")}, {num(1), text("a")}, {null}}
	was := []api.Row{slices.Clone(l[0]), slices.Clone(l[1]), slices.Clone(l[2])}
	b, _ := rowcode.Bag(l)
	if !sameRows(l, was) {
		t.Errorf("Bag changed its argument: %v", l)
	}
	slices.Reverse(was)
	again, _ := rowcode.ReadBag(b)
	got, _ := rowcode.ReadBag(b)
	row, _, _ := rowcode.ReadRow(b[4:])
	clear(b[:cap(b)])
	for i, r := range got {
		spoil(r)
		if !sameRows(got[i+1:], was[i+1:]) {
			t.Errorf("row %d shares memory with another one: %v", i, got)
		}
	}
	if !sameRows(again, was) || !sameRow(row, was[0]) {
		t.Errorf("%v %v", again, row)
	}
}
