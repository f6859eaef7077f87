package table_test

import (
	"math"
	"math/rand"
	"strconv"
	"testing"

	"lockstep/api"
	"lockstep/table"
)

// P8.4: Mark counts what answered OK, whatever it changed; Back counts it down; Forget, New and Load have it at 0.
func TestMark(t *testing.T) {
	x, _ := made(t, people(3))
	at := func(want int) {
		t.Helper()
		if x.Mark() != want {
			t.Fatalf("Mark: %d, not %d", x.Mark(), want)
		}
	}
	at(0)
	insert(t, x, person(1, "a"))
	at(1)
	x.Insert(person(1, "a"))
	x.Insert(nil)
	x.Update(9, person(1, "a"))
	x.Update(1, nil)
	x.Delete(9)
	x.Find(7, nil)
	x.Back(-1)
	x.Back(2)
	at(1)
	all(t, x.Update(1, person(1, "a"))) // the same row: a change like any other
	at(2)
	all(t, x.Update(1, person(2, "")))
	at(3)
	all(t, x.Delete(1))
	at(4)
	all(t, x.Back(4))
	at(4)
	all(t, x.Back(2))
	at(2)
	insert(t, x, person(5, "e"))
	at(3)
	x.Forget()
	at(0)
	x.Forget()
	at(0)
	insert(t, x, person(6, ""))
	at(1)
	all(t, x.Back(0))
	at(0)
	y, why := table.Load(people(3), x.Rows(), 50)
	if why != api.OK || y.Mark() != 0 || y.Back(0) != api.OK || y.Back(1) != api.ErrState {
		t.Error(why, y.Mark())
	}
}

// P8.4: Back to a mark that is none.
func TestBackRefused(t *testing.T) {
	x, _ := made(t, people(3))
	for marks := range 4 {
		was := told(x)
		for _, mark := range []int{-1, -2, math.MinInt, marks + 1, marks + 2, math.MaxInt} {
			if why := x.Back(mark); why != api.ErrState || told(x) != was {
				t.Errorf("Back(%d) at %d: %v", mark, marks, why)
			}
		}
		if why := x.Back(marks); why != api.OK || told(x) != was {
			t.Errorf("Back(%d) to where it is: %v", marks, why)
		}
		if marks < 3 {
			insert(t, x, person(int64(marks), ""))
		}
	}
	x.Forget()
	if x.Back(1) != api.ErrState || x.Back(-1) != api.ErrState || x.Back(0) != api.OK || x.Len() != 3 {
		t.Error("behind Forget")
	}
}

// P8.4: Back behind each kind of change, by itself.
func TestBackOfEach(t *testing.T) {
	for name, change := range map[string]func(x *table.Table) api.Errno{
		"Insert":                 func(x *table.Table) api.Errno { _, why := x.Insert(person(9, "z")); return why },
		"Update":                 func(x *table.Table) api.Errno { return x.Update(2, person(9, "z")) },
		"Update of one key":      func(x *table.Table) api.Errno { return x.Update(2, person(2, "z")) },
		"Update to NULL":         func(x *table.Table) api.Errno { return x.Update(1, person(1, "")) },
		"Update from NULL":       func(x *table.Table) api.Errno { return x.Update(3, person(3, "c")) },
		"Update by itself":       func(x *table.Table) api.Errno { return x.Update(1, person(1, "a")) },
		"Delete":                 func(x *table.Table) api.Errno { return x.Delete(2) },
		"Delete of the last one": func(x *table.Table) api.Errno { return x.Delete(4) },
	} {
		x, _ := made(t, people(9))
		for i, s := range []string{"a", "b", "", ""} {
			insert(t, x, person(int64(i+1), s))
		}
		was := told(x)
		all(t, change(x))
		if told(x) == was {
			t.Error(name, "changes nothing")
		}
		all(t, x.Back(4))
		if told(x) != was {
			t.Errorf("%s: %s\nnot\n%s", name, told(x), was)
		}
		all(t, change(x), x.Back(4), change(x))
		if x.Mark() != 5 {
			t.Error(name, x.Mark())
		}
	}
}

// P8.4: places that are changed about, so that a row stands where another one stood: taken back one behind the other none is in the way.
func TestBackOfSwaps(t *testing.T) {
	x, m := made(t, people(3))
	for i, s := range []string{"a", "b", "c"} {
		both(t, x, m, act{what: "insert", row: person(int64(i+1), s)})
	}
	for round := range 6 {
		for _, a := range []act{
			{what: "update", id: 1, row: person(9, "z")}, {what: "update", id: 2, row: person(1, "a")}, {what: "update", id: 1, row: person(2, "b")},
			{what: "delete", id: 3}, {what: "update", id: 2, row: person(3, "c")}, {what: "insert", row: person(1, "a")}, {what: "delete", id: m.next},
			{what: "update", id: 2, row: person(1, "c")}, {what: "update", id: m.next, row: person(3, "a")},
		} {
			both(t, x, m, a)
			same(t, x, m)
		}
		for mark := x.Mark(); mark >= 3; mark -= 1 + round%3 {
			both(t, x, m, act{what: "back", mark: mark})
			same(t, x, m)
		}
		both(t, x, m, act{what: "back", mark: 3})
		same(t, x, m)
	}
}

// P8.4, P8.7: back to each mark, out of each later one: all is told as then, and what is done then has the answers that it would have had then.
func TestBackToEachMark(t *testing.T) {
	for seed := range int64(12) {
		r := rand.New(rand.NewSource(seed))
		x, _ := made(t, wide(12))
		texts, clones := []string{told(x)}, []*table.Table{x.Clone()}
		for range 120 {
			a := someAct(r, x, someWide)
			if a.what == "back" || a.what == "forget" {
				continue
			}
			if _, why := do(x, a); why == api.OK {
				texts, clones = append(texts, told(x)), append(clones, x.Clone())
			}
		}
		if x.Mark() != len(texts)-1 || x.Mark() < 20 {
			t.Fatal(x.Mark(), len(texts))
		}
		for mark := range texts {
			y := x.Clone()
			all(t, y.Back(mark))
			if got := told(y); got != texts[mark] {
				t.Fatalf("Back(%d): %s\nnot\n%s", mark, got, texts[mark])
			}
			goBoth(t, rand.New(rand.NewSource(seed+int64(mark))), y, clones[mark].Clone(), 40)
		}
		// And down from mark to mark.
		for mark := x.Mark(); mark >= 0; mark -= 1 + r.Intn(4) {
			all(t, x.Back(mark))
			if got := told(x); got != texts[mark] {
				t.Fatalf("Back(%d): %s\nnot\n%s", mark, got, texts[mark])
			}
		}
	}
}

// goBoth makes the same calls on two tables, which must answer and tell the same.
func goBoth(t *testing.T, r *rand.Rand, x, y *table.Table, calls int) {
	t.Helper()
	for range calls {
		a := someAct(r, x, someWide)
		id, why := do(x, a)
		otherID, other := do(y, a)
		if id != otherID || why != other {
			t.Fatalf("%v: %d %v and %d %v", a, id, why, otherID, other)
		}
	}
	if a, b := told(x), told(y); a != b {
		t.Fatalf("%s\nand\n%s", a, b)
	}
}

// P8.4: the numbers that are given behind Back are those that would have been given then; rows that were deleted give theirs not free.
func TestNumbersBehindBack(t *testing.T) {
	x, _ := made(t, people(9))
	insert(t, x, person(1, ""))
	insert(t, x, person(2, ""))
	all(t, x.Delete(2))
	insert(t, x, person(3, "")) // 3
	insert(t, x, person(4, "")) // 4
	all(t, x.Delete(3), x.Delete(4))
	for mark, want := range map[int]uint64{7: 5, 6: 5, 5: 5, 4: 4, 3: 3, 2: 3, 1: 2, 0: 1} {
		y := x.Clone()
		all(t, y.Back(mark))
		if y.Next() != want || insert(t, y, person(9, "")) != want || y.Next() != want+1 {
			t.Errorf("behind Back(%d): %d, not %d", mark, y.Next(), want)
		}
	}
	y, why := table.Load(people(9), nil, 100)
	all(t, why)
	insert(t, y, person(1, ""))
	all(t, y.Delete(100), y.Back(0))
	if y.Next() != 100 {
		t.Error(y.Next())
	}
}

// P8.4: Forget lets all stand, and nothing of it is taken back any more.
func TestForget(t *testing.T) {
	x, m := made(t, people(9))
	for _, a := range []act{
		{what: "insert", row: person(1, "a")}, {what: "insert", row: person(2, "b")}, {what: "update", id: 1, row: person(3, "")}, {what: "delete", id: 2},
		{what: "forget"}, {what: "back", mark: 1}, {what: "back", mark: 0},
		{what: "insert", row: person(2, "b")}, {what: "delete", id: 1}, {what: "forget"}, {what: "update", id: 3, row: person(1, "q")}, {what: "back", mark: 0}, {what: "back", mark: 0},
	} {
		both(t, x, m, a)
		same(t, x, m)
	}
	if x.Len() != 1 || x.Next() != 4 {
		t.Error(x.Len(), x.Next())
	}
}

// P8.4: many changes, taken back at once.
func TestBackOfMany(t *testing.T) {
	x, _ := made(t, people(50))
	for i := range int64(50) {
		insert(t, x, person(i, strconv.Itoa(int(i))))
	}
	was := told(x)
	for i := range 20000 {
		id := uint64(i%50) + 1
		if r, why := x.Get(id); why == api.OK {
			all(t, x.Update(id, person(r[0].Int+50, "")))
		} else {
			t.Fatal(why)
		}
	}
	if x.Mark() != 20050 {
		t.Error(x.Mark())
	}
	all(t, x.Back(50))
	if told(x) != was {
		t.Error(told(x))
	}
}
