package table_test

import (
	"iter"
	"math"
	"math/rand"
	"slices"
	"strings"
	"testing"

	"lockstep/api"
	"lockstep/table"
)

type way struct {
	name string
	of   func(x *table.Table) iter.Seq2[uint64, api.Row]
	want func(m *model) []api.Kept
}

// ways are all of going through wide, and how the model has each.
func ways(t *testing.T) []way {
	l := []way{{"Scan", (*table.Table).Scan, (*model).rows}}
	for key := range wide(1).Keys {
		for _, b := range []api.Bounds{{}, {Low: row(null()), High: row(text("é")), HighIn: true}} {
			l = append(l, way{
				name: "Range of key " + string(rune('0'+key)),
				of: func(x *table.Table) iter.Seq2[uint64, api.Row] {
					s, why := x.Range(key, b)
					if why != api.OK {
						t.Fatal(why)
					}
					return s
				},
				want: func(m *model) []api.Kept { return m.span(key, b) },
			})
		}
	}
	return l
}

// grown is a table of some rows, with gaps between their numbers.
func grown(t *testing.T, seed int64, calls int) (*table.Table, *model) {
	t.Helper()
	r := rand.New(rand.NewSource(seed))
	x, m := made(t, wide(60))
	for n := 0; n < calls || x.Len() < 5; n++ {
		if a := someAct(r, x, someWide); a.what != "back" && a.what != "forget" {
			both(t, x, m, a)
		}
	}
	return x, m
}

// P8.3: Scan and Range to their end, and Rows; told in their order, each row once.
func TestToTheEnd(t *testing.T) {
	for seed := range int64(20) {
		x, m := grown(t, seed, 200)
		for _, w := range ways(t) {
			if got := gone(w.of(x)); !exactly(got, w.want(m)) {
				t.Fatalf("%s: %v, not %v", w.name, got, w.want(m))
			}
		}
		if !exactly(x.Rows(), m.rows()) {
			t.Fatal(x.Rows())
		}
	}
	x, _ := made(t, wide(5))
	for _, w := range ways(t) {
		if l := gone(w.of(x)); len(l) != 0 {
			t.Error(w.name, "of none:", l)
		}
	}
}

// P8.3: of one key by their numbers, also if they came to it in another order.
func TestOneKeyByNumbers(t *testing.T) {
	f := people(200)
	f.Keys[1].Unique = false
	x, m := made(t, f)
	for i := range int64(200) {
		both(t, x, m, act{what: "insert", row: person(i*37%200, "z")})
	}
	for i := range uint64(200) {
		name := "b"
		if i%2 == 0 {
			name = ""
		}
		both(t, x, m, act{what: "update", id: i*71%200 + 1, row: person(int64(i*71%200)*37%200, name)})
	}
	same(t, x, m)
	for i, k := range ranged(t, x, 1, api.Bounds{}) {
		if i != 100 && i > 0 && k.ID <= ranged(t, x, 1, api.Bounds{})[i-1].ID {
			t.Fatal("at", i)
		}
	}
}

// P8.3: Range of keys that are none.
func TestRangeRefused(t *testing.T) {
	x, _ := made(t, wide(5))
	for _, key := range []int{-1, 6, 7, math.MinInt, math.MaxInt} {
		if s, why := x.Range(key, api.Bounds{}); s != nil || why != api.ErrNoKey {
			t.Error(key, why)
		}
	}
}

// P8.3: each kind of bounds: with each number of values, of each type, in and not, also such as can't be.
func TestBounds(t *testing.T) {
	x, m := grown(t, 5, 60)
	values := []api.Value{null(), num(-1), num(0), dec(0), dec(15000), text("a"), text("é"), truth(1)}
	ends := slices.Concat([]api.Row{nil, {}}, lists(values, 1), lists(values[:6], 2))
	told := 0
	for key := range m.form.Keys {
		for i, low := range ends {
			for j, high := range ends {
				b := api.Bounds{Low: low, High: high, LowIn: (i+j)%2 == 0, HighIn: (i+2*j)%3 == 0}
				want := m.span(key, b)
				told += len(want)
				if got := ranged(t, x, key, b); !exactly(got, want) {
					t.Fatalf("Range(%d, %v): %v, not %v", key, b, got, want)
				}
			}
		}
	}
	if told == 0 {
		t.Error("nothing was told")
	}
}

func TestRandomBounds(t *testing.T) {
	r := rand.New(rand.NewSource(83))
	values := []api.Value{
		null(), num(-1), num(0), num(7), num(math.MaxInt64), dec(-10000), dec(15000), text(""), text("a"), text("aé"), text("x"), truth(0), truth(1),
		truth(2), {Type: -1}, {Type: 9, Int: 1, Text: "x"}, text("\xff"), text(strings.Repeat("x", 5000)), {Type: api.Null, Int: 3, Text: "q"},
	}
	end := func() api.Row {
		l := make(api.Row, r.Intn(6))
		for i := range l {
			l[i] = values[r.Intn(len(values))]
		}
		return l
	}
	for seed := range int64(10) {
		x, m := grown(t, 100+seed, 100)
		for range 2000 {
			key, b := r.Intn(6), api.Bounds{Low: end(), High: end(), LowIn: r.Intn(2) == 0, HighIn: r.Intn(2) == 0}
			if got, want := ranged(t, x, key, b), m.span(key, b); !exactly(got, want) {
				t.Fatalf("Range(%d, %.300v): %v, not %v", key, b, got, want)
			}
		}
	}
}

// P8.3: the bounds by name, of one key: in, not in, none, the wrong way about, longer than the key.
func TestBoundsByName(t *testing.T) {
	x, _ := made(t, people(9))
	for i := range int64(5) {
		insert(t, x, person((i+1)*10, ""))
	}
	at := func(n int64) api.Row { return row(num(n)) }
	for _, c := range []struct {
		b    api.Bounds
		want []uint64
	}{
		{api.Bounds{}, []uint64{1, 2, 3, 4, 5}},
		{api.Bounds{LowIn: true, HighIn: true}, []uint64{1, 2, 3, 4, 5}},
		{api.Bounds{Low: at(20)}, []uint64{3, 4, 5}},
		{api.Bounds{Low: at(20), LowIn: true}, []uint64{2, 3, 4, 5}},
		{api.Bounds{Low: at(20), HighIn: true}, []uint64{3, 4, 5}},
		{api.Bounds{High: at(20)}, []uint64{1}},
		{api.Bounds{High: at(20), HighIn: true}, []uint64{1, 2}},
		{api.Bounds{Low: at(20), High: at(40)}, []uint64{3}},
		{api.Bounds{Low: at(20), High: at(40), LowIn: true, HighIn: true}, []uint64{2, 3, 4}},
		{api.Bounds{Low: at(15), High: at(35)}, []uint64{2, 3}},
		{api.Bounds{Low: at(30), High: at(30), LowIn: true, HighIn: true}, []uint64{3}},
		{api.Bounds{Low: at(30), High: at(30), LowIn: true}, nil},
		{api.Bounds{Low: at(40), High: at(20), LowIn: true, HighIn: true}, nil},
		{api.Bounds{Low: at(50)}, nil},
		{api.Bounds{High: at(10)}, nil},
		{api.Bounds{Low: row(dec(200000)), LowIn: true}, []uint64{3, 4, 5}}, // 20.0 comes behind 20
		{api.Bounds{Low: row(null())}, []uint64{1, 2, 3, 4, 5}},
		{api.Bounds{High: row(text(""))}, []uint64{1, 2, 3, 4, 5}},
		{api.Bounds{Low: row(num(20), null()), LowIn: true}, []uint64{3, 4, 5}},
		{api.Bounds{High: row(num(20), null())}, []uint64{1, 2}},
	} {
		var got []uint64
		for _, k := range ranged(t, x, 0, c.b) {
			got = append(got, k.ID)
		}
		if !slices.Equal(got, c.want) {
			t.Errorf("%v: %v, not %v", c.b, got, c.want)
		}
	}
}

// P8.3: an iterator that is told to stop tells nothing more, at each place; and may be begun anew.
func TestToldToStop(t *testing.T) {
	x, m := grown(t, 7, 200)
	for _, w := range ways(t) {
		s, want := w.of(x), w.want(m)
		for stop := range want {
			var got []api.Kept
			s(func(id uint64, r api.Row) bool {
				got = append(got, api.Kept{ID: id, Row: r})
				return len(got) <= stop
			})
			if !exactly(got, want[:stop+1]) {
				t.Fatalf("%s told to stop at %d: %v", w.name, stop, got)
			}
		}
		if !exactly(gone(s), want) {
			t.Error(w.name, "begun anew")
		}
	}
	same(t, x, m)
}

// P8.3: what was there when it began counts, not what was there when it was asked for; so each time anew.
func TestBegunAnew(t *testing.T) {
	r := rand.New(rand.NewSource(84))
	x, m := made(t, wide(30))
	l := ways(t)
	var going []iter.Seq2[uint64, api.Row]
	for _, w := range l {
		going = append(going, w.of(x))
	}
	for range 400 {
		both(t, x, m, someAct(r, x, someWide))
		for i, w := range l {
			if got := gone(going[i]); !exactly(got, w.want(m)) {
				t.Fatalf("%s: %v, not %v", w.name, got, w.want(m))
			}
		}
	}
}

// P8.3: changes of each kind while it is gone through change nothing in it; one that is begun meanwhile sees them.
func TestChangedMeanwhile(t *testing.T) {
	for seed := range int64(30) {
		for _, w := range ways(t) {
			r := rand.New(rand.NewSource(seed))
			x, m := grown(t, seed, 150)
			s, want := w.of(x), w.want(m)
			var got []api.Kept
			for id, row := range s {
				got = append(got, api.Kept{ID: id, Row: row})
				for range 6 {
					both(t, x, m, someAct(r, x, someWide))
				}
				if len(got)%5 == 1 {
					if inner := gone(s); !exactly(inner, w.want(m)) {
						t.Fatalf("%s begun meanwhile: %v, not %v", w.name, inner, w.want(m))
					}
				}
			}
			if !exactly(got, want) {
				t.Fatalf("%s: %v, not %v", w.name, got, want)
			}
			same(t, x, m)
		}
	}
}

// P8.3: each kind of change at the first step, of all that comes behind it.
func TestAllChangedAtOnce(t *testing.T) {
	for _, w := range ways(t) {
		for _, change := range []func(x *table.Table, id uint64) api.Errno{
			(*table.Table).Delete,
			func(x *table.Table, id uint64) api.Errno {
				return x.Update(id, row(num(1000-int64(id)), text("q"), null(), null(), null()))
			},
			func(x *table.Table, id uint64) api.Errno {
				_, why := x.Insert(row(num(int64(id)), text("new"), null(), null(), null()))
				return why
			},
			func(x *table.Table, _ uint64) api.Errno { return x.Back(0) },
		} {
			x, m := grown(t, 11, 100)
			want := w.want(m)
			var got []api.Kept
			for id, r := range w.of(x) {
				if len(got) == 0 {
					for _, k := range m.rows() {
						all(t, change(x, k.ID))
					}
				}
				got = append(got, api.Kept{ID: id, Row: r})
			}
			if !exactly(got, want) {
				t.Errorf("%s: %v, not %v", w.name, got, want)
			}
		}
	}
}

// What was handed in may panic: that goes through, and the table is as it was.
func TestPanicGoesThrough(t *testing.T) {
	x, m := grown(t, 3, 100)
	for _, w := range ways(t) {
		if len(w.want(m)) == 0 {
			continue
		}
		func() {
			defer func() {
				if recover() != "stop" {
					t.Error(w.name, "swallowed a panic")
				}
			}()
			w.of(x)(func(uint64, api.Row) bool { panic("stop") })
		}()
		same(t, x, m)
	}
}
