package table_test

import (
	"math"
	"math/rand"
	"testing"

	"lockstep/api"
	"lockstep/table"
)

func kept(id uint64, r api.Row) api.Kept { return api.Kept{ID: id, Row: r} }

// P8.5: what Load refuses, and what comes ahead of what.
func TestLoadRefused(t *testing.T) {
	bad := people(2)
	bad.Keys[0].Unique = false
	a, b, c, wrong := person(1, "a"), person(2, "b"), person(3, "c"), person(9, "toolong")
	for i, x := range []struct {
		f    api.Table
		l    []api.Kept
		next uint64
		want api.Errno
	}{
		{people(2), nil, 1, api.OK},
		{people(2), []api.Kept{}, math.MaxUint64, api.OK},
		{people(2), []api.Kept{kept(1, a)}, 2, api.OK},
		{people(2), []api.Kept{kept(1, a), kept(2, b)}, 3, api.OK},
		{people(2), []api.Kept{kept(5, a), kept(77, b)}, 100, api.OK},
		{people(2), []api.Kept{kept(math.MaxUint64-1, a)}, math.MaxUint64, api.OK},
		{people(2), []api.Kept{kept(1, person(1, "")), kept(2, person(2, ""))}, 3, api.OK},
		{bad, nil, 1, api.ErrPrimary},
		{bad, []api.Kept{kept(0, wrong), kept(0, wrong), kept(0, wrong)}, 0, api.ErrPrimary},
		{people(2), []api.Kept{kept(1, a), kept(2, b), kept(3, c)}, 4, api.ErrFull},
		{people(2), []api.Kept{kept(0, wrong), kept(0, a), kept(0, a)}, 0, api.ErrFull},
		{people(2), nil, 0, api.ErrRow},
		{people(2), []api.Kept{kept(0, a)}, 1, api.ErrRow},
		{people(2), []api.Kept{kept(0, a), kept(1, b)}, 2, api.ErrRow},
		{people(2), []api.Kept{kept(1, a), kept(0, b)}, 2, api.ErrRow},
		{people(2), []api.Kept{kept(1, a), kept(1, b)}, 2, api.ErrRow},
		{people(2), []api.Kept{kept(2, a), kept(1, b)}, 3, api.ErrRow},
		{people(2), []api.Kept{kept(1, a)}, 1, api.ErrRow},
		{people(2), []api.Kept{kept(1, a), kept(5, b)}, 5, api.ErrRow},
		{people(2), []api.Kept{kept(1, a), kept(5, b)}, 4, api.ErrRow},
		{people(2), []api.Kept{kept(1, a), kept(5, b)}, 0, api.ErrRow},
		{people(2), []api.Kept{kept(math.MaxUint64, a)}, math.MaxUint64, api.ErrRow},
		{people(2), []api.Kept{kept(math.MaxUint64, a)}, 0, api.ErrRow},
		{people(2), []api.Kept{kept(1, wrong), kept(1, a)}, 2, api.ErrRow},
		{people(2), []api.Kept{kept(1, wrong)}, 1, api.ErrRow},
		{people(2), []api.Kept{kept(1, a), kept(2, a)}, 2, api.ErrRow},
		{people(2), []api.Kept{kept(1, wrong)}, 2, api.ErrLong},
		{people(2), []api.Kept{kept(1, nil)}, 2, api.ErrArg},
		{people(2), []api.Kept{kept(1, a[:1])}, 2, api.ErrArg},
		{people(2), []api.Kept{kept(1, row(null(), null()))}, 2, api.ErrNull},
		{people(2), []api.Kept{kept(1, a), kept(2, row(dec(1), null()))}, 3, api.ErrType},
		{people(2), []api.Kept{kept(1, a), kept(2, row(num(2), text("\xff")))}, 3, api.ErrForm},
		{people(2), []api.Kept{kept(1, a), kept(2, person(1, ""))}, 3, api.ErrTwice},
		{people(2), []api.Kept{kept(1, a), kept(2, person(2, "a"))}, 3, api.ErrTwice},
		{people(3), []api.Kept{kept(1, a), kept(2, b), kept(4, person(1, "c"))}, 5, api.ErrTwice},
		// Row by row: what comes first is told.
		{people(3), []api.Kept{kept(1, a), kept(2, a), kept(3, wrong)}, 4, api.ErrTwice},
		{people(3), []api.Kept{kept(1, a), kept(2, wrong), kept(3, a)}, 4, api.ErrLong},
		{people(3), []api.Kept{kept(1, a), kept(2, row(num(1), text("toolong")))}, 4, api.ErrLong},
		{people(3), []api.Kept{kept(1, nil), kept(2, wrong)}, 4, api.ErrArg},
		{people(3), []api.Kept{kept(1, wrong), kept(2, nil)}, 4, api.ErrLong},
	} {
		y, why := table.Load(x.f, x.l, x.next)
		if why != x.want || (y == nil) != (why != api.OK) {
			t.Errorf("%d: Load(%v, %d): %v, not %v", i, x.l, x.next, why, x.want)
		}
		if y != nil {
			same(t, y, &model{form: x.f, state: state{x.l, x.next}})
		}
	}
}

// P8.5: how many rows may be loaded.
func TestLoadMany(t *testing.T) {
	for _, most := range []int{1, 2, 100, 4096} {
		var l []api.Kept
		for i := range uint64(most) + 1 {
			l = append(l, kept(i*3+1, person(int64(i), "")))
		}
		if x, why := table.Load(people(most), l, 1<<40); x != nil || why != api.ErrFull {
			t.Errorf("%d of %d: %v", len(l), most, why)
		}
		x, why := table.Load(people(most), l[:most], 1<<40)
		if why != api.OK || !exactly(x.Rows(), l[:most]) || x.Next() != 1<<40 || x.Mark() != 0 {
			t.Errorf("%d of %d: %v", most, most, why)
		}
	}
}

// P8.5: a table that was loaded out of another one's rows goes on as that one does; what was done ahead is not taken back.
func TestLoadGoesOn(t *testing.T) {
	for seed := range int64(40) {
		r := rand.New(rand.NewSource(seed))
		x, m := grown(t, seed, 80)
		both(t, x, m, act{what: "forget"})
		y, why := table.Load(x.Form(), x.Rows(), x.Next())
		if why != api.OK || told(y) != told(x) {
			t.Fatalf("%v: %s\nnot\n%s", why, told(y), told(x))
		}
		goBoth(t, r, x, y, 100)
	}
}

// P8.5: a Clone is the same, with all that can be taken back, and neither knows of the other one: whatever is done to either one, and to clones of clones.
func TestClones(t *testing.T) {
	type pair struct {
		x *table.Table
		m *model
	}
	for seed := range int64(6) {
		r := rand.New(rand.NewSource(seed))
		x, m := made(t, wide(20))
		l := []pair{{x, m}}
		for i := range 1500 {
			p := l[r.Intn(len(l))]
			both(t, p.x, p.m, someAct(r, p.x, someWide))
			if i%150 == 149 {
				c := pair{p.x.Clone(), p.m.clone()}
				same(t, c.x, c.m)
				if told(c.x) != told(p.x) {
					t.Fatal("a clone tells something else")
				}
				l = append(l, c)
			}
		}
		for _, p := range l {
			same(t, p.x, p.m)
			both(t, p.x, p.m, act{what: "back", mark: 0})
			same(t, p.x, p.m)
		}
	}
}

// P8.5: each kind of change, and Back, on the one, is not seen on the other one, either way.
func TestCloneAndEither(t *testing.T) {
	base, _ := made(t, people(5))
	insert(t, base, person(1, "a"))
	insert(t, base, person(2, ""))
	all(t, base.Update(2, person(2, "b")), base.Delete(1))
	insert(t, base, person(3, "c"))
	for name, change := range map[string]func(x *table.Table) api.Errno{
		"Insert":  func(x *table.Table) api.Errno { _, why := x.Insert(person(9, "z")); return why },
		"Update":  func(x *table.Table) api.Errno { return x.Update(2, person(9, "z")) },
		"Delete":  func(x *table.Table) api.Errno { return x.Delete(2) },
		"Back(0)": func(x *table.Table) api.Errno { return x.Back(0) },
		"Back(1)": func(x *table.Table) api.Errno { return x.Back(1) },
		"Back(3)": func(x *table.Table) api.Errno { return x.Back(3) },
		"Back and Insert": func(x *table.Table) api.Errno {
			x.Back(2)
			_, why := x.Insert(person(9, "z"))
			return why
		},
		"Forget": func(x *table.Table) api.Errno { x.Forget(); return api.OK },
		"Forget and more": func(x *table.Table) api.Errno {
			x.Forget()
			x.Delete(3)
			return x.Delete(2)
		},
	} {
		for _, turned := range []bool{false, true} {
			x := base.Clone()
			y := x.Clone()
			if turned {
				x, y = y, x
			}
			was := told(y)
			all(t, change(x))
			if told(y) != was || told(x) == was {
				t.Errorf("%s: %s\nnot\n%s", name, told(y), was)
			}
			for mark := y.Mark(); mark >= 0; mark-- {
				now := told(x)
				all(t, y.Back(mark))
				z := base.Clone()
				all(t, z.Back(mark))
				if told(x) != now || told(y) != told(z) {
					t.Errorf("%s: Back(%d) on the other one", name, mark)
				}
			}
		}
	}
}

// Two objects know nothing of one another: a table and its clone may be used at the same time, each by one goroutine.
func TestCloneBeside(t *testing.T) {
	x, _ := made(t, people(1000))
	for i := range int64(300) {
		insert(t, x, person(i, ""))
	}
	c := x.Clone()
	done := make(chan int)
	use := func(y *table.Table, by int64) {
		for i := range int64(300) {
			y.Update(uint64(i+1), person(i*by+1000, ""))
			y.Insert(person(-i*by-1, ""))
		}
		y.Back(300 + int(by))
		done <- y.Len()
	}
	go use(x, 1)
	go use(c, 2)
	if a, b := <-done, <-done; a+b != 601 || x.Mark() != 301 || c.Mark() != 302 {
		t.Error(a, b, x.Mark(), c.Mark())
	}
}
