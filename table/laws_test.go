package table_test

import (
	"math/rand"
	"slices"
	"testing"

	"lockstep/api"
	"lockstep/table"
	"lockstep/value"
)

// asTheForm holds what P8.6 says against what a table tells, by the chapter's words alone.
func asTheForm(t *testing.T, x *table.Table) {
	t.Helper()
	f, l := x.Form(), x.Rows()
	if len(l) > f.Most || len(l) != x.Len() {
		t.Fatalf("%d rows of at most %d, Len %d", len(l), f.Most, x.Len())
	}
	for i, k := range l {
		if why := table.Fits(f, k.Row); why != api.OK {
			t.Fatalf("%v does not fit: %v", k, why)
		}
		if k.ID == 0 || k.ID >= x.Next() || i > 0 && k.ID <= l[i-1].ID {
			t.Fatalf("the number of %v, next %d", k, x.Next())
		}
		for _, other := range l[:i] {
			for _, key := range f.Keys {
				if clash(key, k.Row, other.Row) {
					t.Fatalf("%v and %v clash in %v", k, other, key)
				}
			}
		}
	}
	for i, key := range f.Keys {
		underKey(t, x, i, key, l)
	}
}

// underKey: each row is found under its key, by Find and by Range, and no other one is.
func underKey(t *testing.T, x *table.Table, i int, key api.Key, l []api.Kept) {
	t.Helper()
	by := slices.Clone(l)
	slices.SortStableFunc(by, func(a, b api.Kept) int { return value.Rows(keyOf(key, a.Row), keyOf(key, b.Row)) })
	if got := ranged(t, x, i, api.Bounds{}); !exactly(got, by) {
		t.Fatalf("Range(%d): %v, not %v", i, got, by)
	}
	for _, k := range l {
		of := keyOf(key, k.Row)
		var want []uint64
		for _, other := range l {
			if value.Rows(keyOf(key, other.Row), of) == 0 {
				want = append(want, other.ID)
			}
		}
		if ids, why := x.Find(i, of); why != api.OK || !slices.Equal(ids, want) {
			t.Fatalf("Find(%d, %v): %v %v, not %v", i, of, ids, why, want)
		}
	}
}

// P8.6: whatever was called; also in clones, and in what was loaded.
func TestAlwaysAsTheForm(t *testing.T) {
	for seed := range int64(8) {
		r := rand.New(rand.NewSource(seed))
		x, _ := made(t, wide(1+r.Intn(20)))
		for i := range 600 {
			do(x, someAct(r, x, someWide))
			if i%40 == 0 {
				y, why := table.Load(x.Form(), x.Rows(), x.Next())
				all(t, why)
				asTheForm(t, y)
				x = x.Clone()
			}
			asTheForm(t, x)
		}
	}
}

// refusal is a call, and the error that it answers.
type refusal struct {
	why  api.Errno
	call func() api.Errno
}

// P8.8: a call that answers an error changes nothing: each call with each of its errors.
func TestErrorsChangeNothing(t *testing.T) {
	x, _ := made(t, people(3))
	insert(t, x, person(1, "a"))
	insert(t, x, person(2, "b"))
	insert(t, x, person(3, ""))
	all(t, x.Update(2, person(4, "d")), x.Delete(3))
	full := x.Clone()
	insert(t, full, person(9, ""))
	for _, y := range []*table.Table{x, full} {
		was := told(y)
		l := []refusal{
			{api.ErrRow, func() api.Errno { return y.Update(3, person(8, "")) }},
			{api.ErrRow, func() api.Errno { return y.Update(0, person(8, "")) }},
			{api.ErrTwice, func() api.Errno { return y.Update(1, person(4, "")) }},
			{api.ErrTwice, func() api.Errno { return y.Update(1, person(7, "d")) }},
			{api.ErrRow, func() api.Errno { return y.Delete(3) }},
			{api.ErrRow, func() api.Errno { return y.Delete(y.Next()) }},
			{api.ErrState, func() api.Errno { return y.Back(-1) }},
			{api.ErrState, func() api.Errno { return y.Back(y.Mark() + 1) }},
			{api.ErrRow, func() api.Errno { _, why := y.Get(3); return why }},
			{api.ErrNoKey, func() api.Errno { _, why := y.Find(2, row(num(1))); return why }},
			{api.ErrArg, func() api.Errno { _, why := y.Find(0, nil); return why }},
			{api.ErrForm, func() api.Errno { _, why := y.Find(0, row(text("\xff"))); return why }},
			{api.ErrNoKey, func() api.Errno { _, why := y.Range(-1, api.Bounds{}); return why }},
		}
		for _, bad := range []struct {
			r   api.Row
			why api.Errno
		}{
			{nil, api.ErrArg}, {person(1, "a")[:1], api.ErrArg}, {row(truth(2), null()), api.ErrArg}, {row(null(), null()), api.ErrNull},
			{row(dec(1), null()), api.ErrType}, {person(8, "toolong"), api.ErrLong}, {person(8, "\xff"), api.ErrForm},
		} {
			l = append(l,
				refusal{bad.why, func() api.Errno { _, why := y.Insert(bad.r); return why }},
				refusal{bad.why, func() api.Errno { return y.Update(1, bad.r) }})
		}
		for _, r := range []api.Row{person(1, ""), person(8, "d"), person(4, "a")} {
			want := api.ErrTwice
			if y == full {
				want = api.ErrFull
			}
			l = append(l, refusal{want, func() api.Errno {
				id, why := y.Insert(r)
				if id != 0 {
					t.Error("a number beside an error:", id)
				}
				return why
			}})
		}
		for i, c := range l {
			if why := c.call(); why != c.why {
				t.Errorf("%d: %v, not %v", i, why, c.why)
			}
			if got := told(y); got != was {
				t.Fatalf("%d: %s\nnot\n%s", i, got, was)
			}
		}
		// And all can be taken back as if none of these had been.
		all(t, y.Back(0))
		if y.Len() != 0 || y.Next() != 1 {
			t.Error(y.Len(), y.Next())
		}
	}
}

// calls are some of each kind, of rows that clash and that do not.
func calls() []act {
	l := []act{{what: "forget"}, {what: "insert", row: person(3, "toolong")}, {what: "update", id: 1}}
	for _, r := range []api.Row{person(1, "a"), person(2, ""), person(2, "b"), person(3, "")} {
		l = append(l, act{what: "insert", row: r})
	}
	for _, r := range []api.Row{person(1, "b"), person(2, "a"), person(1, "")} {
		l = append(l, act{what: "update", id: 1, row: r}, act{what: "update", id: 2, row: r})
	}
	for id := range uint64(3) {
		l = append(l, act{what: "delete", id: id + 1})
	}
	for mark := range 4 {
		l = append(l, act{what: "back", mark: mark})
	}
	return l
}

// P8.2 to P8.8: all goings of some calls, each held against the model at each step.
func TestAllGoings(t *testing.T) {
	var goOn func(x *table.Table, m *model, left int)
	goOn = func(x *table.Table, m *model, left int) {
		for _, a := range calls() {
			y, n := x.Clone(), m.clone()
			both(t, y, n, a)
			same(t, y, n)
			if left > 1 {
				goOn(y, n, left-1)
			}
		}
		same(t, x, m)
	}
	x, m := made(t, people(2))
	goOn(x, m, 4)
	for _, ahead := range [][]act{
		{{what: "insert", row: person(1, "a")}, {what: "insert", row: person(2, "b")}},
		{{what: "insert", row: person(1, "a")}, {what: "insert", row: person(2, "")}, {what: "delete", id: 1}, {what: "update", id: 2, row: person(1, "a")}},
		{{what: "insert", row: person(2, "")}, {what: "forget"}, {what: "update", id: 1, row: person(1, "a")}, {what: "insert", row: person(2, "b")}, {what: "back", mark: 1}},
	} {
		x, m := made(t, people(2))
		for _, a := range ahead {
			both(t, x, m, a)
		}
		goOn(x, m, 3)
	}
}

// P8.2 to P8.8: long goings at random.
func TestLongGoings(t *testing.T) {
	for seed := range int64(10) {
		r := rand.New(rand.NewSource(1000 + seed))
		x, m := made(t, wide(2+r.Intn(40)))
		told := map[api.Errno]int{}
		for range 1500 {
			told[both(t, x, m, someAct(r, x, someWide))]++
			if r.Intn(8) == 0 {
				same(t, x, m)
			}
		}
		same(t, x, m)
		for _, why := range []api.Errno{api.OK, api.ErrTwice, api.ErrRow, api.ErrArg, api.ErrState} {
			if told[why] < 10 {
				t.Errorf("%v came %d times", why, told[why])
			}
		}
	}
}
