package table_test

import (
	"math"
	"slices"
	"strings"
	"testing"

	"lockstep/api"
	"lockstep/table"
)

// The examples of the chapter.
func TestExamples(t *testing.T) {
	x, _ := made(t, people(10))
	for _, c := range []struct {
		r   api.Row
		id  uint64
		why api.Errno
	}{
		{person(1, "a"), 1, api.OK}, {person(1, "b"), 0, api.ErrTwice}, {person(2, "a"), 0, api.ErrTwice}, {person(2, ""), 2, api.OK}, {person(3, ""), 3, api.OK},
	} {
		if id, why := x.Insert(c.r); id != c.id || why != c.why {
			t.Errorf("Insert(%v): %d %v", c.r, id, why)
		}
	}
	if ids, why := x.Find(1, row(null())); !slices.Equal(ids, []uint64{2, 3}) || why != api.OK {
		t.Error(ids, why)
	}

	y, _ := made(t, people(10))
	if y.Mark() != 0 {
		t.Error(y.Mark())
	}
	was := told(y)
	insert(t, y, person(1, "a"))
	all(t, y.Delete(1), y.Back(0))
	if told(y) != was {
		t.Errorf("%s\nnot\n%s", told(y), was)
	}
	if id := insert(t, y, person(5, "")); id != 1 {
		t.Error(id)
	}
}

// P8.2: numbers go from 1 on, each one more than the last one, whatever was deleted or refused meanwhile.
func TestNumbers(t *testing.T) {
	x, _ := made(t, people(3))
	for i := range uint64(200) {
		if x.Next() != i+1 {
			t.Fatal(x.Next(), i)
		}
		if id := insert(t, x, person(int64(i%3), "")); id != i+1 {
			t.Fatal(id, i)
		}
		x.Insert(person(int64(i%3), ""))
		x.Insert(nil)
		all(t, x.Update(i+1, person(int64(i), "x")))
		if i%2 == 0 {
			all(t, x.Delete(i+1))
		} else {
			x.Forget()
			all(t, x.Delete(i+1))
		}
	}
}

// P8.2: a table that is full, of each of several sizes; whatever goes makes room.
func TestFull(t *testing.T) {
	for _, most := range []int{1, 2, 3, 17, 100, 4095, 4096} {
		x, _ := made(t, people(most))
		for i := range most {
			insert(t, x, person(int64(i), ""))
		}
		for _, r := range []api.Row{person(9999, ""), person(9999, "a"), person(0, "")} {
			if id, why := x.Insert(r); id != 0 || why != api.ErrFull {
				t.Fatalf("of %d: Insert(%v): %d %v", most, r, id, why)
			}
		}
		if _, why := x.Insert(person(1, "toolong")); why != api.ErrLong {
			t.Error("Fits' error comes ahead:", why)
		}
		// Each row of a full table may still be another one, and stay itself.
		for i := range uint64(most) {
			all(t, x.Update(i+1, person(int64(i), "")), x.Update(i+1, person(int64(i)-10000, "")))
		}
		all(t, x.Delete(uint64(most)))
		if id := insert(t, x, person(0, "")); id != uint64(most)+1 || x.Len() != most {
			t.Error(id, x.Len())
		}
		if _, why := x.Insert(person(7777, "")); why != api.ErrFull {
			t.Error(why)
		}
		all(t, x.Back(most))
		if x.Len() != most || x.Next() != uint64(most)+1 {
			t.Error(x.Len(), x.Next())
		}
		if _, why := x.Insert(person(7777, "")); why != api.ErrFull {
			t.Error(why)
		}
		all(t, x.Back(most-1))
		if id := insert(t, x, person(7777, "")); id != uint64(most) {
			t.Error(id)
		}
	}
}

// P8.2: the largest table that may be, with all keys that may be.
func TestLargest(t *testing.T) {
	f := columns(16, 16, 4)
	f.Most = 4096
	for i := range f.Cols {
		f.Cols[i].Most = 0
		f.Cols[i].Type = api.BigInt
	}
	for i := range f.Keys {
		f.Keys[i].Cols = []int{(i + 3) % 16, i, (i + 1) % 16, (i + 2) % 16}
	}
	x, _ := made(t, f)
	of := func(n int64) api.Row {
		r := make(api.Row, 16)
		for i := range r {
			r[i] = num(n * int64(1+i%3) % 5000)
		}
		return r
	}
	for i := range int64(4096) {
		if id := insert(t, x, of(i)); id != uint64(i)+1 {
			t.Fatal(id)
		}
	}
	if _, why := x.Insert(of(4096)); why != api.ErrFull {
		t.Error(why)
	}
	for key := range 16 {
		if ids, why := x.Find(key, keyOf(f.Keys[key], of(77))); why != api.OK || !slices.Equal(ids, []uint64{78}) {
			t.Error(key, ids, why)
		}
	}
	if why := x.Update(5, of(77)); why != api.ErrTwice {
		t.Error(why)
	}
	all(t, x.Update(5, of(4500)), x.Delete(6), x.Back(0))
	if x.Len() != 0 || x.Next() != 1 {
		t.Error(x.Len(), x.Next())
	}
}

// P8.2: the next number at its end: none is given any more, whatever room there is; behind Back it is given again.
func TestLastNumber(t *testing.T) {
	x, why := table.Load(people(5), []api.Kept{{ID: math.MaxUint64 - 3, Row: person(1, "a")}}, math.MaxUint64-2)
	all(t, why)
	if a, b := insert(t, x, person(2, "")), insert(t, x, person(3, "")); a != math.MaxUint64-2 || b != math.MaxUint64-1 {
		t.Error(a, b)
	}
	for _, r := range []api.Row{person(4, ""), person(1, "a")} {
		if id, why := x.Insert(r); id != 0 || why != api.ErrFull || x.Next() != math.MaxUint64 || x.Len() != 3 {
			t.Error(id, why, x.Next(), x.Len())
		}
	}
	if _, why := x.Insert(nil); why != api.ErrArg {
		t.Error(why)
	}
	all(t, x.Update(math.MaxUint64-1, person(4, "z")), x.Delete(math.MaxUint64-1))
	if _, why := x.Insert(person(4, "")); why != api.ErrFull {
		t.Error(why)
	}
	if why := x.Delete(math.MaxUint64); why != api.ErrRow {
		t.Error(why)
	}
	all(t, x.Back(1))
	if id := insert(t, x, person(4, "")); id != math.MaxUint64-1 {
		t.Error(id)
	}

	y, why := table.Load(people(5), nil, math.MaxUint64)
	all(t, why)
	if _, why := y.Insert(person(1, "")); why != api.ErrFull {
		t.Error(why)
	}
}

// P8.2: clashes in each Unique key, and in none that is not, or where a NULL stands.
func TestClashes(t *testing.T) {
	base := row(num(1), text("a"), dec(5), truth(1), text("x"))
	for _, c := range []struct {
		r    api.Row
		want api.Errno
	}{
		{base, api.ErrTwice},
		{row(num(1), text("a"), dec(6), truth(0), text("y")), api.ErrTwice},  // k0
		{row(num(2), text("a"), dec(5), truth(1), text("x")), api.ErrTwice},  // k2, k5
		{row(num(2), text("b"), null(), null(), text("x")), api.ErrTwice},    // k5
		{row(num(1), text("b"), dec(5), truth(1), text("y")), api.OK},        // k1 alone, which is not Unique
		{row(num(2), text("a"), dec(5), truth(1), null()), api.OK},           // k1; a NULL in k2 and k5
		{row(num(2), text("a"), dec(5), null(), text("y")), api.OK},          // a NULL in k2
		{row(num(2), text("b"), dec(6), truth(1), text("")), api.OK},         // the empty text is no NULL
		{row(num(1), text("a "), dec(50000), truth(0), text("X")), api.OK},   // other texts
		{row(num(1), text("a\x00"), dec(-5), truth(0), text("é")), api.OK},   // other texts
		{row(num(1), text("A"), null(), null(), null()), api.OK},             // great letters are others
		{row(num(-1), text("a"), dec(5), truth(0), text("xx")), api.OK},      // k2 differs in its first column
		{row(num(2), text("a"), dec(5), truth(1), text("y")), api.OK},        // k2 differs in its last column
		{row(num(1), text("a"), null(), null(), null()), api.ErrTwice},       // k0, whatever NULLs stand elsewhere
		{row(num(3), text("a"), dec(7), truth(1), text("x")), api.ErrTwice},  // k5
		{row(num(3), text("zz"), dec(5), truth(1), text("xx")), api.OK},      // k2 differs in its last column
		{row(num(3), text("zz"), dec(5), truth(1), text("x")), api.ErrTwice}, // k2, k5
	} {
		x, _ := made(t, wide(9))
		insert(t, x, base)
		if _, got := x.Insert(c.r); got != c.want {
			t.Errorf("Insert(%v): %v, not %v", c.r, got, c.want)
		}
		x, _ = made(t, wide(9))
		insert(t, x, base)
		insert(t, x, row(num(99), text("q"), null(), null(), null()))
		if got := x.Update(2, c.r); got != c.want {
			t.Errorf("Update(2, %v): %v, not %v", c.r, got, c.want)
		}
		if got := x.Update(1, c.r); got != api.OK && c.want == api.ErrTwice {
			t.Errorf("Update(1, %v): %v: it clashes with itself alone", c.r, got)
		}
		if y, got := table.Load(wide(9), []api.Kept{{ID: 1, Row: base}, {ID: 2, Row: c.r}}, 3); got != c.want || (y == nil) != (got != api.OK) {
			t.Errorf("Load of %v: %v, not %v", c.r, got, c.want)
		}
	}
}

// P8.2: a row with a NULL in a Unique key may be there as often as one likes.
func TestManyNulls(t *testing.T) {
	x, _ := made(t, people(50))
	var want []uint64
	for i := range int64(50) {
		want = append(want, insert(t, x, person(i, "")))
	}
	for id := range uint64(50) {
		all(t, x.Update(id+1, person(int64(id), "")))
	}
	if ids, why := x.Find(1, row(null())); why != api.OK || !slices.Equal(ids, want) {
		t.Error(ids, why)
	}
}

// P8.2: Update: by itself, by another one, of a number that is none; the order of what is wrong.
func TestUpdate(t *testing.T) {
	x, m := made(t, people(5))
	for i, name := range []string{"a", "b", ""} {
		both(t, x, m, act{what: "insert", row: person(int64(i+1), name)})
	}
	both(t, x, m, act{what: "delete", id: 3})
	for _, c := range []struct {
		id   uint64
		r    api.Row
		want api.Errno
	}{
		{1, person(1, "a"), api.OK},
		{1, person(1, "b"), api.ErrTwice},
		{1, person(2, "a"), api.ErrTwice},
		{1, person(2, "b"), api.ErrTwice},
		{2, person(1, "c"), api.ErrTwice},
		{2, person(3, "c"), api.OK},
		{1, person(2, "b"), api.OK},
		{2, person(1, "a"), api.OK},
		{1, person(2, ""), api.OK},
		{2, person(1, ""), api.OK},
		{0, person(9, "z"), api.ErrRow},
		{3, person(9, "z"), api.ErrRow},
		{4, person(9, "z"), api.ErrRow},
		{math.MaxUint64, person(9, "z"), api.ErrRow},
		{4, nil, api.ErrRow},
		{4, person(1, "toolong"), api.ErrRow},
		{1, nil, api.ErrArg},
		{1, person(1, "toolong"), api.ErrLong},
		{1, row(null(), null()), api.ErrNull},
		{1, row(text("x"), null()), api.ErrType},
		{1, row(num(1), text("\xff")), api.ErrForm},
		{1, person(1, ""), api.ErrTwice},
	} {
		if got := both(t, x, m, act{what: "update", id: c.id, row: c.r}); got != c.want {
			t.Errorf("Update(%d, %v): %v, not %v", c.id, c.r, got, c.want)
		}
		same(t, x, m)
	}
}

// P8.2: Delete: of one that is there, of one that is gone, of one that never was.
func TestDelete(t *testing.T) {
	x, m := made(t, people(5))
	for i := range int64(5) {
		both(t, x, m, act{what: "insert", row: person(i, string(rune('a'+i)))})
	}
	for _, id := range []uint64{3, 3, 0, 6, 1, 5, 5, math.MaxUint64, 2, 4, 4} {
		both(t, x, m, act{what: "delete", id: id})
		same(t, x, m)
	}
	if x.Len() != 0 || x.Next() != 6 {
		t.Error(x.Len(), x.Next())
	}
	// What is gone keeps nothing out.
	if id := insert(t, x, person(3, "d")); id != 6 {
		t.Error(id)
	}
}

// P8.3: Get of a number that is none.
func TestGet(t *testing.T) {
	x, _ := made(t, people(5))
	insert(t, x, person(7, "a"))
	if r, why := x.Get(1); why != api.OK || !slices.Equal(r, person(7, "a")) {
		t.Error(r, why)
	}
	for _, id := range []uint64{0, 2, 3, math.MaxUint64} {
		if r, why := x.Get(id); r != nil || why != api.ErrRow {
			t.Error(id, r, why)
		}
	}
	all(t, x.Update(1, person(8, "")))
	if r, _ := x.Get(1); !slices.Equal(r, person(8, "")) {
		t.Error(r)
	}
	all(t, x.Delete(1))
	if r, why := x.Get(1); r != nil || why != api.ErrRow {
		t.Error(r, why)
	}
}

// P8.3: Find: what is refused, in which order.
func TestFindRefused(t *testing.T) {
	x, _ := made(t, wide(9))
	insert(t, x, row(num(1), text("a"), dec(5), truth(1), text("x")))
	long := text(strings.Repeat("x", 4097))
	for _, c := range []struct {
		key  int
		of   api.Row
		want api.Errno
	}{
		{-1, row(num(1)), api.ErrNoKey}, {6, row(num(1)), api.ErrNoKey}, {math.MinInt, nil, api.ErrNoKey}, {math.MaxInt, row(long), api.ErrNoKey}, {-1, row(truth(2)), api.ErrNoKey},
		{0, nil, api.ErrArg}, {0, row(text("a")), api.ErrArg}, {0, row(text("a"), num(1), num(1)), api.ErrArg}, {1, row(), api.ErrArg}, {4, row(num(1), text("a"), dec(5)), api.ErrArg},
		{0, row(long), api.ErrArg}, {0, row(long, long, long), api.ErrArg},
		{0, row(long, num(1)), api.ErrLong}, {0, row(text("a"), long), api.ErrLong}, {0, row(text("\xff"), num(1)), api.ErrForm}, {0, row(text("a"), truth(2)), api.ErrArg},
		{0, row(text("\xff"), long), api.ErrForm}, {0, row(long, text("\xff")), api.ErrLong}, {0, row(api.Value{Type: 9}, long), api.ErrArg}, {0, row(null(), text("\xff")), api.ErrForm},
		{4, row(num(1), text("a"), dec(5), text("\xff")), api.ErrForm},
	} {
		if ids, why := x.Find(c.key, c.of); ids != nil || why != c.want {
			t.Errorf("Find(%d, %.100v): %v %v, not %v", c.key, c.of, ids, why, c.want)
		}
	}
}

// P8.3: Find of all rows of some values, of NULLs and other types, too; what plays no part in a value does not.
func TestFind(t *testing.T) {
	x, m := made(t, wide(40))
	for a := range int64(3) {
		for _, b := range []string{"", "a", "é"} {
			for i, c := range []api.Value{null(), dec(0), dec(10000)} {
				r := row(num(a*10+int64(i)), text(b), c, null(), null())
				if i == 1 && b == "a" {
					r[3], r[4] = truth(1), text(string(rune('p'+a)))
				}
				if both(t, x, m, act{what: "insert", row: r}) != api.OK {
					t.Fatal(r)
				}
			}
		}
	}
	values := []api.Value{null(), num(0), num(1), num(10), dec(0), dec(10000), text(""), text("a"), text("é"), text("p"), text("pp"), text("longer than any"), truth(0), truth(1)}
	for i, k := range m.form.Keys {
		found := 0
		for _, of := range lists(values, len(k.Cols)) {
			sameFind(t, x, m, i, of)
			found += len(m.find(i, of))
		}
		if found == 0 {
			t.Error("nothing is found by key", i)
		}
	}
	sameFind(t, x, m, 1, row(api.Value{Type: api.Null, Int: 4, Text: "x"}))
	if ids, why := x.Find(1, row(api.Value{Type: api.Null, Int: 4, Text: "\xff"})); len(ids) != 9 || why != api.OK {
		t.Error(ids, why)
	}
	if ids, why := x.Find(1, row(api.Value{Type: api.Dec, Int: 10000, Text: "x"})); len(ids) != 9 || why != api.OK {
		t.Error(ids, why)
	}
	if ids, why := x.Find(1, row(num(1))); len(ids) != 0 || why != api.OK {
		t.Error("1 is 1.0 to no key:", ids, why)
	}
}

// lists are all rows of so many of these values.
func lists(of []api.Value, n int) []api.Row {
	out := []api.Row{nil}
	for range n {
		var next []api.Row
		for _, r := range out {
			for _, v := range of {
				next = append(next, append(slices.Clone(r), v))
			}
		}
		out = next
	}
	return out
}
