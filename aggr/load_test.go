package aggr_test

import (
	"bytes"
	"math/big"
	"math/rand"
	"slices"
	"testing"

	"lockstep/aggr"
	"lockstep/api"
	"lockstep/rowcode"
	"lockstep/value"
)

// known are the kinds that there are.
func known() map[kind]int {
	m := map[kind]int{}
	for _, k := range kinds() {
		m[k] = 1
	}
	return m
}

// canBe tells whether bytes are what Bytes answers of some part of a kind that is known: what the chapter lets them be, one thing behind the other.
func canBe(b []byte, known map[kind]int) bool {
	r, size, why := rowcode.ReadRow(b)
	if why != api.OK || len(r) != 6 {
		return false
	}
	for i, typ := range []int{api.Text, api.Bool, api.Bool, api.BigInt, api.BigInt, api.BigInt} {
		if r[i].Type != typ {
			return false
		}
	}
	k := kind{r[0].Text, r[1].Int == 1, r[2].Int == 1, 0}
	if r[3].Int < 0 || r[3].Int > 4 {
		return false
	}
	k.typ = int(r[3].Int)
	if known[k] == 0 {
		return false
	}
	var l []api.Value
	for b = b[size:]; len(b) > 0; b = b[size:] {
		var v api.Value
		if v, size, why = rowcode.Read(b); why != api.OK {
			return false
		}
		l = append(l, v)
	}
	return r[5].Int == int64(len(l)) && canHold(k, r[4].Int, l)
}

// canHold tells whether a part of so many values may be followed by these.
func canHold(k kind, size int64, l []api.Value) bool {
	if size < 0 || size > most || k.typ == api.Null && !k.star && size != 0 {
		return false
	}
	switch {
	case k.distinct:
		return int64(len(l)) == size && size <= mostOnce && rising(k.typ, l)
	case k.agg == "count":
		return len(l) == 0
	case k.agg == "min" || k.agg == "max":
		return len(l) == 0 && size == 0 || len(l) == 1 && size > 0 && l[0].Type == k.typ
	}
	if len(l) != 2 || l[0].Type != api.BigInt || l[1].Type != api.BigInt || l[1].Int < 0 || l[1].Int >= 1<<48 {
		return false
	}
	sum := new(big.Int).Lsh(big.NewInt(l[0].Int), 48)
	sum.Add(sum, big.NewInt(l[1].Int))
	low := new(big.Int).Mul(big.NewInt(least), big.NewInt(size))
	high := new(big.Int).Mul(big.NewInt(greatest), big.NewInt(size))
	return sum.Cmp(low) >= 0 && sum.Cmp(high) <= 0
}

func rising(typ int, l []api.Value) bool {
	for i, v := range l {
		if v.Type != typ || v.Type == api.Null || i > 0 && value.Order(l[i-1], v) >= 0 {
			return false
		}
	}
	return true
}

// loads: Load takes these bytes just if they can be, and the part writes them again.
func loads(t *testing.T, b []byte, can bool, what ...any) {
	t.Helper()
	p, why := aggr.Load(b)
	if can && (why != api.OK || p == nil || !bytes.Equal(p.Bytes(), b)) {
		t.Errorf("%v %v, not taken: %.300x %.300v", p != nil, why, b, what)
	}
	if !can && (why != api.ErrBytes || p != nil) {
		t.Errorf("%v %v, not refused: %.300x %.300v", p != nil, why, b, what)
	}
}

// samples are the bytes of parts of each kind, that hold nothing, some, and many values.
func samples(t *testing.T) [][]byte {
	var l [][]byte
	for _, k := range kinds() {
		more := valuesOf(k.typ)
		if k.distinct || k.typ == api.Text {
			more = more[:min(len(more), 6)]
		}
		if k.star {
			more = append(more, null())
		}
		for _, held := range [][]api.Value{nil, some(k.typ), more} {
			l = append(l, made(t, k, held...).Bytes())
		}
	}
	return l
}

// P14.4, P14.6: Load of what Bytes answers is the part.
func TestLoad(t *testing.T) {
	for _, k := range kinds() {
		for _, held := range [][]api.Value{nil, {null()}, some(k.typ), valuesOf(k.typ)} {
			p, m := both(t, k, held...)
			q, why := aggr.Load(p.Bytes())
			ok(t, why, k)
			stands(t, q, m, "loaded")
			stands(t, p, m, "written")
			if !canBe(m.bytes(), known()) {
				t.Errorf("%v of %.100v can't be", k, held)
			}
		}
	}
}

// P14.4: Load of each beginning of what Bytes answers is refused.
func TestLoadBeginnings(t *testing.T) {
	loads(t, nil, false)
	loads(t, []byte{}, false)
	for _, b := range samples(t) {
		for n := range len(b) {
			// A beginning may end behind the row of a part that is another one than what follows lets it be; it is none, as the row says how many follow.
			loads(t, b[:n], false, "beginning", n)
			loads(t, slices.Clone(b[:n]), false, "beginning", n)
		}
	}
}

// P14.4: Load of it with each byte another one: refused, but where that is another part.
func TestLoadBytesBent(t *testing.T) {
	is, taken, turned := known(), 0, 0
	for _, b := range samples(t) {
		for i := range b {
			was := b[i]
			for x := range 256 {
				if byte(x) == was {
					continue
				}
				b[i] = byte(x)
				can := canBe(b, is)
				loads(t, b, can, "byte", i)
				if can {
					taken++
				} else {
					turned++
				}
			}
			b[i] = was
		}
	}
	// Both come about often, or the test would say little.
	if taken < 1000 || turned < 1000000 {
		t.Errorf("%d taken, %d turned away", taken, turned)
	}
}

// P14.4: Load of it with a byte less anywhere, a byte more, and with bytes behind it.
func TestLoadMore(t *testing.T) {
	is := known()
	for _, b := range samples(t) {
		for i := range b {
			cut := slices.Delete(slices.Clone(b), i, i+1)
			loads(t, cut, canBe(cut, is), "less", i)
			for _, x := range []byte{0, 1, 2, 3, 4, 0xff, b[i]} {
				more := slices.Insert(slices.Clone(b), i, x)
				loads(t, more, canBe(more, is), "more", i)
			}
		}
		for x := range 256 {
			loads(t, append(slices.Clone(b), byte(x)), false, "behind", x)
		}
		for _, v := range allValues() {
			loads(t, append(slices.Clone(b), valueBytes(v)...), false, "behind", v)
		}
		loads(t, slices.Concat(b, b), false, "twice")
	}
}

// P14.4: rows that are no part's head: another number of values, values of other types, aggregates that New refuses.
func TestLoadHeads(t *testing.T) {
	good := head(kind{"count", false, false, api.BigInt}, 1, 0)
	loads(t, laid(good), true)
	for n := range len(good) {
		loads(t, laid(good[:n]), false, n)
		loads(t, laid(good[n+1:]), false, n)
		for _, v := range slices.Concat(allValues(), []api.Value{text("count"), num(1), num(0), dec(0), dec(10000), dec(1), truth(1), truth(0)}) {
			bent := slices.Clone(good)
			bent[n] = v
			loads(t, laid(bent), canBe(laid(bent), known()), n, v)
			if v.Type != good[n].Type {
				loads(t, laid(bent), false, n, v)
			}
		}
	}
	for n := 7; n <= 17; n++ {
		for _, v := range []api.Value{null(), num(0), truth(0), text("")} {
			r := slices.Clone(good)
			for len(r) < n {
				r = append(r, v)
			}
			loads(t, laid(r), false, n, v)
		}
	}
	for _, agg := range []string{"count", "sum", "min", "max", "avg", "", "COUNT", "mean", "count "} {
		for _, star := range []bool{false, true} {
			for _, distinct := range []bool{false, true} {
				for _, typ := range []int{-1, 0, 1, 2, 3, 4, 5, 1 << 32, 1<<32 + 1, least, greatest} {
					k := kind{agg, star, distinct, typ}
					is := slices.Contains(kinds(), k)
					sums := agg == "sum" || agg == "avg"
					loads(t, laid(head(k, 0, 0)), is && (distinct || !sums), k)
					loads(t, laid(head(k, 0, 2), num(0), num(0)), is && sums && !distinct, k)
				}
			}
		}
	}
}

// P14.4: Lens that go with none such, and numbers of values that do not follow.
func TestLoadLens(t *testing.T) {
	for _, k := range kinds() {
		one := valuesOf(k.typ)[:min(1, len(valuesOf(k.typ)))]
		for _, l := range [][]api.Value{nil, one, {num(0), num(0)}, {num(0), num(1)}, {truth(0), truth(1)}, {text(""), text("a")}, {dec(0), dec(1)}, {null()}} {
			for _, size := range []int64{-1, 0, 1, 2, 3, mostOnce, mostOnce + 1, most - 1, most, most + 1, 1 << 62, greatest, least, -most} {
				for _, many := range []int64{-1, 0, 1, 2, 3, 1 << 40, greatest, least} {
					b := laid(head(k, size, many), l...)
					loads(t, b, many == int64(len(l)) && canHold(k, size, l), k, size, many, l)
				}
			}
		}
	}
	count := kind{"count", false, false, api.Text}
	loads(t, laid(head(count, most, 0)), true)
	loads(t, laid(head(count, most+1, 0)), false)
	loads(t, laid(head(kind{"count", false, false, api.Null}, 1, 0)), false)
	loads(t, laid(head(kind{"count", true, false, api.Null}, 1, 0)), true)
	loads(t, laid(head(kind{"min", false, false, api.BigInt}, 0, 1), num(5)), false)
	loads(t, laid(head(kind{"max", false, false, api.BigInt}, 1, 0)), false)
	loads(t, laid(head(kind{"min", false, false, api.BigInt}, most, 1), num(5)), true)
	loads(t, laid(head(kind{"min", false, false, api.BigInt}, 1, 1), dec(5)), false)
	loads(t, laid(head(kind{"max", false, false, api.BigInt}, 1, 1), null()), false)
	loads(t, laid(head(kind{"max", false, false, api.BigInt}, 2, 2), num(5), num(6)), false)
	loads(t, laid(head(kind{"max", false, false, api.BigInt}, 2, 2), num(6), num(6)), false)
	loads(t, laid(head(kind{"max", false, false, api.BigInt}, 2, 2), num(6), null()), false)
	loads(t, laid(head(kind{"max", false, false, api.BigInt}, 2, 1), num(6), null()), false)
}

// P14.4: of distinct: values out of their order, there twice, of another type, NULLs; and as many as there may be, and one more.
func TestLoadOnce(t *testing.T) {
	for _, agg := range []string{"count", "sum", "min", "max", "avg"} {
		k := kind{agg, false, true, api.BigInt}
		for _, x := range []struct {
			l   []api.Value
			can bool
		}{
			{nil, true}, {nums(1), true}, {nums(1, 2), true}, {nums(least, -1, 0, greatest), true},
			{nums(2, 1), false}, {nums(1, 1), false}, {nums(1, 3, 2), false}, {nums(1, 2, 2), false}, {nums(3, 2, 1), false},
			{decs(1), false}, {[]api.Value{num(1), dec(20000)}, false}, {[]api.Value{num(1), text("a")}, false}, {[]api.Value{num(1), truth(1)}, false},
			{[]api.Value{null()}, false}, {[]api.Value{null(), num(1)}, false}, {[]api.Value{num(1), null()}, false},
		} {
			for _, size := range []int{len(x.l) - 1, len(x.l), len(x.l) + 1} {
				for _, many := range []int{len(x.l) - 1, len(x.l), len(x.l) + 1} {
					b := laid(head(k, int64(size), int64(many)), x.l...)
					loads(t, b, x.can && size == len(x.l) && many == len(x.l), k, x.l, size, many)
				}
			}
		}
		loads(t, laid(head(kind{agg, false, true, api.Null}, 1, 1), null()), false)
		loads(t, laid(head(kind{agg, false, true, api.Null}, 0, 1), null()), false)
		var l []api.Value
		for i := range int64(mostOnce) {
			l = append(l, num(i-100))
		}
		loads(t, laid(head(k, mostOnce, mostOnce), l...), true, "full")
		l = append(l, num(mostOnce))
		loads(t, laid(head(k, mostOnce+1, mostOnce+1), l...), false, "one more")
		loads(t, laid(head(k, mostOnce, mostOnce), l...), false, "one behind")
	}
}

// P14.4: of sums: the same number by another two values, values of another type, another number of them; and sums that no so many values have, to the last one that they have.
func TestLoadSums(t *testing.T) {
	for _, agg := range []string{"sum", "avg"} {
		for _, typ := range []int{api.BigInt, api.Dec} {
			k := kind{agg, false, false, typ}
			of := func(size int64, l ...api.Value) []byte { return laid(head(k, size, int64(len(l))), l...) }
			loads(t, of(2, num(0), num(5)), true)
			loads(t, of(2, num(-1), num(1<<48+5)), false)
			loads(t, of(2, num(1), num(5-1<<48)), false)
			loads(t, of(2, num(0), num(1<<48-1)), true)
			loads(t, of(2, num(0), num(1<<48)), false)
			loads(t, of(2, num(0), num(-1)), false)
			loads(t, of(2, num(-1), num(1<<48-1)), true)
			loads(t, of(2, dec(0), num(5)), false)
			loads(t, of(2, num(0), dec(5)), false)
			loads(t, of(2, dec(0), dec(5)), false)
			loads(t, of(2, null(), num(5)), false)
			loads(t, of(2, num(5), null()), false)
			loads(t, of(2, truth(1), num(5)), false)
			loads(t, of(2, text(""), num(5)), false)
			loads(t, of(2), false)
			loads(t, of(2, num(5)), false)
			loads(t, of(2, num(0), num(5), num(0)), false)
			loads(t, of(0, num(0), num(0)), true)
			loads(t, of(0, num(0), num(1)), false)
			loads(t, of(0, num(-1), num(1<<48-1)), false)
			loads(t, of(0, num(1), num(0)), false)
			loads(t, of(0), false)
			for _, size := range []int64{0, 1, 2, 3, 7, 1 << 16, most - 1, most, most + 1} {
				for _, end := range []int64{least, greatest} {
					edge := new(big.Int).Mul(big.NewInt(end), big.NewInt(size))
					for d := int64(-2); d <= 2; d++ {
						sum := new(big.Int).Add(edge, big.NewInt(d))
						inside := size <= most && (d == 0 || size > 0 && (d > 0) == (end < 0))
						first, second := new(big.Int).DivMod(sum, big.NewInt(1<<48), new(big.Int))
						loads(t, of(size, num(first.Int64()), num(second.Int64())), inside, size, end, d)
					}
				}
			}
			for _, first := range []int64{least, greatest, -1<<55 - 1, 1 << 55, 1 << 62} {
				for _, second := range []int64{0, 1<<48 - 1, 1 << 48, greatest, least, -1} {
					loads(t, of(most, num(first), num(second)), false, first, second)
					loads(t, of(1, num(first), num(second)), false, first, second)
				}
			}
		}
		for _, l := range [][]api.Value{nums(0, 1), nums(1, 0), nums(-1, 1<<48-1)} {
			loads(t, laid(head(kind{agg, false, false, api.Null}, 0, 2), l...), false, l)
			loads(t, laid(head(kind{agg, false, false, api.Null}, 1, 2), l...), false, l)
		}
		loads(t, laid(head(kind{agg, false, false, api.Null}, 1, 2), num(0), num(0)), false)
	}
}

// P14.4: bytes at random, and what Bytes answers bent at random in several places.
func TestLoadRandom(t *testing.T) {
	rnd := rand.New(rand.NewSource(14))
	all, is := samples(t), known()
	for range 100000 {
		b := slices.Clone(all[rnd.Intn(len(all))])
		switch rnd.Intn(3) {
		case 0:
			for range 1 + rnd.Intn(3) {
				b[rnd.Intn(len(b))] = byte(rnd.Intn(256) >> uint(rnd.Intn(8)))
			}
		case 1:
			o := all[rnd.Intn(len(all))]
			b = append(b[:rnd.Intn(len(b)+1)], o[rnd.Intn(len(o)):]...)
		default:
			b = b[:rnd.Intn(20)]
			rnd.Read(b)
		}
		loads(t, b, canBe(b, is))
	}
}
