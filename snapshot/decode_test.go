package snapshot_test

import (
	"bytes"
	"math"
	"math/rand"
	"slices"
	"testing"

	"lockstep/api"
	"lockstep/snapshot"
)

// P12.1, P12.4: Decode of what Encode answers is that snapshot, its values without what their types do not name, Part of any number below 0 as -1.
func TestDecodeSamples(t *testing.T) {
	for what, s := range samples() {
		d, why := snapshot.Decode(encoded(t, s))
		if why != api.OK || told(d) != told(plain(s)) {
			t.Errorf("%s: %v %s\nnot\n%s", what, why, told(d), told(plain(s)))
		}
		if !snapshot.Same(d, s) || !snapshot.Same(s, d) {
			t.Errorf("%s: not the same", what)
		}
		if again := encoded(t, d); !bytes.Equal(again, encoded(t, s)) {
			t.Errorf("%s: other bytes", what)
		}
	}
}

// P12.1: what no snapshot's bytes begin with.
func TestDecodeOthers(t *testing.T) {
	for _, b := range [][]byte{nil, {}, {0}, {1}, make([]byte, 7), make([]byte, 8), make([]byte, 100), sealed(nil), sealed([]byte("lockstep snapshot")), bytes.Repeat([]byte{3}, 1000), bytes.Repeat([]byte{255}, 1000), sealed(bytes.Repeat([]byte{1}, 17)), make([]byte, 1<<24)} {
		refused(t, b, short(b))
	}
}

// P12.6: each beginning of a snapshot's bytes, also with its own sum behind it.
func TestDecodeBeginnings(t *testing.T) {
	for what, s := range samples() {
		b := encoded(t, s)
		for n := range len(b) {
			refused(t, b[:n], what, n)
			refused(t, slices.Clone(b[:n]), what, n)
			if n < len(b)-8 {
				refused(t, sealed(b[:n]), what, n)
			}
		}
	}
}

// P12.6: a byte that is another one, at each place, by each value.
func TestDecodeAnotherByte(t *testing.T) {
	t.Parallel()
	for what, s := range samples() {
		b := encoded(t, s)
		for i := range b {
			for by := 1; by < 256; by++ {
				if len(b) > 400 && by&(by-1) != 0 {
					continue
				}
				changed := slices.Clone(b)
				changed[i] ^= byte(by)
				refused(t, changed, what, i, by)
			}
		}
	}
}

// P12.6: the same of a great one, at some of its bytes.
func TestDecodeAnotherByteOfMany(t *testing.T) {
	t.Parallel()
	b := encoded(t, bulky(1<<23))
	for i := 0; i < len(b); i += 1 + len(b)/12 {
		for _, at := range []int{i, len(b) - 1 - i/1000000} {
			b[at] ^= 0x10
			refused(t, b, at)
			b[at] ^= 0x10
		}
		refused(t, b[:i], i)
	}
}

// P12.1: bytes behind a snapshot's, and ahead of its sum.
func TestDecodeMore(t *testing.T) {
	for what, s := range samples() {
		b := encoded(t, s)
		for _, more := range [][]byte{{0}, {1}, []byte("more"), make([]byte, 8), b, b[len(b)-8:]} {
			refused(t, slices.Concat(b, more), what, short(more))
			refused(t, sealed(slices.Concat(b[:len(b)-8], more)), what, short(more))
			refused(t, sealed(slices.Concat(more, b[:len(b)-8])), what, short(more))
		}
		refused(t, sealed(b), what, "a sum of the sum")
	}
}

// resealed is the bytes of a snapshot whose rows are bent, with a right sum.
func resealed(s api.Snap, bend func(l []api.Row) []api.Row) []byte {
	return sealed(laid(bend(lines(s)), s.More))
}

// P12.1: rows that say the same with another number of tables, columns, keys, rows, bytes.
func TestDecodeOtherNumbers(t *testing.T) {
	for what, s := range samples() {
		for i, r := range lines(s) {
			for j, v := range r {
				counts := i == 0 && j == 2 || len(r) == 7 && (j == 3 || j == 4 || j == 6) || len(r) == 2 && r[0] == text("more") && i == len(lines(s))-1 && j == 1
				if !counts || v.Type != api.BigInt {
					continue
				}
				for _, n := range []int64{v.Int - 1, v.Int + 1, 0, -1, v.Int + 2, 64, 1 << 20, 1 << 40, math.MaxInt64, math.MinInt64, -v.Int, v.Int + 1<<32} {
					if n == v.Int {
						continue
					}
					refused(t, resealed(s, func(l []api.Row) []api.Row { l[i][j] = num(n); return l }), what, i, j, n)
				}
			}
		}
	}
}

// P12.1: bytes with a right sum that Encode never answers.
func TestDecodeNeverEncoded(t *testing.T) {
	s := samples()["keys"]
	for what, bend := range map[string]func(l []api.Row) []api.Row{
		"another mark":                   func(l []api.Row) []api.Row { l[0][0] = text("lockstep snapshots"); return l },
		"a No below 0":                   func(l []api.Row) []api.Row { l[0][1] = num(-1); return l },
		"the least No":                   func(l []api.Row) []api.Row { l[0][1] = num(math.MinInt64); return l },
		"a No as a DECIMAL":              func(l []api.Row) []api.Row { l[0][1] = dec(10000); return l },
		"one value more":                 func(l []api.Row) []api.Row { l[0] = append(l[0], num(0)); return l },
		"one value less":                 func(l []api.Row) []api.Row { l[0] = l[0][:2]; return l },
		"Part -2":                        func(l []api.Row) []api.Row { l[1][1] = num(-2); return l },
		"the least Part":                 func(l []api.Row) []api.Row { l[1][1] = num(math.MinInt64); return l },
		"Part of no key":                 func(l []api.Row) []api.Row { l[1][1] = num(4); return l },
		"Part NULL":                      func(l []api.Row) []api.Row { l[1][1] = null(); return l },
		"Part as a text":                 func(l []api.Row) []api.Row { l[1][1] = text(""); return l },
		"Most 0":                         func(l []api.Row) []api.Row { l[1][2] = num(0); return l },
		"Most 2":                         func(l []api.Row) []api.Row { l[1][2] = num(2); return l },
		"Next 0":                         func(l []api.Row) []api.Row { l[1][5] = num(0); return l },
		"Next below an ID":               func(l []api.Row) []api.Row { l[1][5] = num(math.MaxInt64); return l },
		"a table without one":            func(l []api.Row) []api.Row { l[1][0] = text(""); return l },
		"a type 5":                       func(l []api.Row) []api.Row { l[2][1] = num(5); return l },
		"a number's Most":                func(l []api.Row) []api.Row { l[2][2] = num(1); return l },
		"NotNull NULL":                   func(l []api.Row) []api.Row { l[2][3] = null(); return l },
		"NotNull as a 1":                 func(l []api.Row) []api.Row { l[2][3] = num(1); return l },
		"a column twice":                 func(l []api.Row) []api.Row { l[3][0] = text("a"); return l },
		"columns and keys":               func(l []api.Row) []api.Row { l[7], l[8] = l[8], l[7]; return l },
		"Unique as a 1":                  func(l []api.Row) []api.Row { l[8][1] = num(1); return l },
		"a first key that is not Unique": func(l []api.Row) []api.Row { l[8][1] = no(); return l },
		"a key of a BOOLEAN":             func(l []api.Row) []api.Row { l[8][2] = yes(); return l },
		"a key of 5 columns":             func(l []api.Row) []api.Row { l[9] = append(l[9], num(0), num(1), num(2)); return l },
		"a key of none":                  func(l []api.Row) []api.Row { l[9] = l[9][:2]; return l },
		"a key of a 17th":                func(l []api.Row) []api.Row { l[9][2] = num(6); return l },
		"an ID as a DECIMAL":             func(l []api.Row) []api.Row { l[11][0] = dec(10000); return l },
		"an ID NULL":                     func(l []api.Row) []api.Row { l[11][0] = null(); return l },
		"an ID 0":                        func(l []api.Row) []api.Row { l[11][0] = num(0); return l },
		"two IDs":                        func(l []api.Row) []api.Row { l[11] = append(l[11], num(1)); return l },
		"no ID":                          func(l []api.Row) []api.Row { l[11] = nil; return l },
		"rows out of order":              func(l []api.Row) []api.Row { l[11], l[12], l[13], l[14] = l[13], l[14], l[11], l[12]; return l },
		"a row twice":                    func(l []api.Row) []api.Row { l[14] = l[12]; return l },
		"a row of none":                  func(l []api.Row) []api.Row { l[12] = nil; return l },
		"a row of 17":                    func(l []api.Row) []api.Row { l[12] = make(api.Row, 17); return l },
		"a NULL":                         func(l []api.Row) []api.Row { l[12][0] = null(); return l },
		"another type":                   func(l []api.Row) []api.Row { l[12][0] = dec(1); return l },
		"a long text":                    func(l []api.Row) []api.Row { l[12][4] = text("four"); return l },
		"no UTF-8":                       func(l []api.Row) []api.Row { l[12][4] = text("\xff"); return l },
		"another more":                   func(l []api.Row) []api.Row { l[17][0] = text("mor"); return l },
		"a More of -1":                   func(l []api.Row) []api.Row { l[17][1] = num(-1); return l },
		"a More of 9":                    func(l []api.Row) []api.Row { l[17][1] = num(9); return l },
		"a More of a DECIMAL":            func(l []api.Row) []api.Row { l[17][1] = dec(1); return l },
		"a more of 3":                    func(l []api.Row) []api.Row { l[17] = append(l[17], num(0)); return l },
		"no more":                        func(l []api.Row) []api.Row { return l[:17] },
		"more twice":                     func(l []api.Row) []api.Row { return append(l, l[17]) },
		"no head":                        func(l []api.Row) []api.Row { return l[1:] },
		"nothing":                        func(l []api.Row) []api.Row { return nil },
	} {
		refused(t, resealed(s, bend), what)
	}
	if d, why := snapshot.Decode(resealed(s, func(l []api.Row) []api.Row { return l })); why != api.OK || told(d) != told(plain(s)) {
		t.Error("not bent at all", why)
	}
	twice := api.Snap{Tables: []api.Stored{small().Tables[0], small().Tables[0]}}
	refused(t, bytesOf(twice), "two tables of one name")
}

// someBend changes rows at random, so that they are a snapshot's now and then.
func someBend(r *rand.Rand, l []api.Row) []api.Row {
	i := r.Intn(len(l))
	values := []api.Value{null(), yes(), no(), num(-1), num(0), num(1), num(2), num(3), num(r.Int63n(9)), num(math.MaxInt64), num(math.MinInt64), num(int64(r.Uint64())), dec(0), dec(10000), text(""), text("a"), text("more"), text("p"), text("\x00")}
	v := values[r.Intn(len(values))]
	switch at := r.Intn(len(l[i]) + 1); {
	case r.Intn(12) == 0:
		return slices.Delete(l, i, i+1)
	case r.Intn(12) == 0:
		return slices.Insert(l, i, slices.Clone(l[r.Intn(len(l))]))
	case r.Intn(12) == 0:
		j := r.Intn(len(l))
		l[i], l[j] = l[j], l[i]
	case at == len(l[i]) || r.Intn(12) == 0:
		l[i] = slices.Insert(l[i], at, v)
	case r.Intn(12) == 0:
		l[i] = slices.Delete(l[i], at, at+1)
	case l[i][at].Type == api.BigInt && r.Intn(2) == 0:
		l[i][at].Int += int64(r.Intn(5) - 2)
	default:
		l[i][at] = v
	}
	return l
}

// P12.1: rows bent in one place, in two and more, with a right sum: Decode tells what the model tells; of what it reads Encode answers those very bytes.
func TestDecodeBent(t *testing.T) {
	t.Parallel()
	r := rand.New(rand.NewSource(5))
	read, not := 0, 0
	for what, s := range samples() {
		for range 6000 {
			l := lines(s)
			for n := 1 + r.Intn(3); n > 0 && len(l) > 0; n-- {
				l = someBend(r, l)
			}
			more := s.More
			if r.Intn(20) == 0 {
				more = append(slices.Clone(more), 'm')
			}
			b := sealed(laid(l, more))
			want, is := modelDecode(b)
			d, why := snapshot.Decode(b)
			if (why == api.OK) != is || !is && why != api.ErrSnap || told(d) != told(want) {
				t.Fatalf("%s: %v %s\nnot %v\n%s", what, why, told(d), is, told(want))
			}
			if !is {
				not++
				continue
			}
			read++
			if again := encoded(t, d); !bytes.Equal(again, b) {
				t.Fatalf("%s: %s", what, told(d))
			}
		}
	}
	if read < 2000 || not < 20000 {
		t.Error(read, not)
	}
}

// P12.1: bytes bent at random, with a right sum or not.
func TestDecodeBentBytes(t *testing.T) {
	t.Parallel()
	r := rand.New(rand.NewSource(6))
	read := 0
	for _, s := range samples() {
		for range 3000 {
			b := laid(lines(s), s.More)
			for n := 1 + r.Intn(3); n > 0; n-- {
				i := r.Intn(len(b))
				switch r.Intn(4) {
				case 0:
					b = slices.Delete(b, i, i+1)
				case 1:
					b = slices.Insert(b, i, byte(r.Intn(6)))
				default:
					b[i] ^= byte(1) << r.Intn(8)
				}
			}
			refused(t, append(b, hashed([]byte("else"))...), "another sum")
			b = sealed(b)
			want, is := modelDecode(b)
			d, why := snapshot.Decode(b)
			if (why == api.OK) != is || !is && why != api.ErrSnap || told(d) != told(want) {
				t.Fatalf("%x: %v %s\nnot %v\n%s", b, why, told(d), is, told(want))
			}
			if is {
				read++
			}
		}
	}
	if read < 500 {
		t.Error(read)
	}
}
