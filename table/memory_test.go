package table_test

import (
	"math/rand"
	"slices"
	"testing"

	"lockstep/api"
	"lockstep/table"
)

// roomy is a list with spare room behind it that is filled in.
func roomy[T any](l []T, spare T) []T {
	out := append(slices.Clone(l), spare, spare)
	return out[:len(l)]
}

// smear writes over a list, its spare room too.
func smear[T any](l []T, with T) {
	l = l[:cap(l)]
	for i := range l {
		l[i] = with
	}
}

func smearForm(f api.Table) {
	for _, k := range f.Keys {
		smear(k.Cols, 99)
	}
	smear(f.Keys, api.Key{Name: "smeared"})
	smear(f.Cols, api.Column{Name: "smeared"})
}

func smearRows(l []api.Kept) {
	for _, k := range l {
		smear(k.Row, text("smeared"))
	}
	smear(l, api.Kept{ID: 4711})
}

func roomyForm() api.Table {
	f := wide(9)
	f.Cols = roomy(f.Cols, api.Column{Name: "spare"})
	for i := range f.Keys {
		f.Keys[i].Cols = roomy(f.Keys[i].Cols, 77)
	}
	f.Keys = roomy(f.Keys, api.Key{Name: "spare"})
	return f
}

// Memory: a form that is changed by the caller behind New or Load is not the table's; nor is one that Form answered.
func TestFormIsKept(t *testing.T) {
	f, g := roomyForm(), roomyForm()
	x, _ := made(t, f)
	y, why := table.Load(g, nil, 1)
	all(t, why)
	smearForm(f)
	smearForm(g)
	c := x.Clone()
	for _, z := range []*table.Table{x, y, c} {
		one, other := z.Form(), z.Form()
		smearForm(one)
		if !sameForm(other, wide(9)) || !sameForm(z.Form(), wide(9)) {
			t.Error(other, z.Form())
		}
		smearForm(other)
	}
	for _, z := range []*table.Table{x, y, c} {
		if !sameForm(z.Form(), wide(9)) {
			t.Error(z.Form())
		}
		insert(t, z, row(num(1), text("a"), null(), null(), null()))
		if _, why := z.Insert(row(num(1), text("a"), null(), null(), null())); why != api.ErrTwice {
			t.Error(why)
		}
		asTheForm(t, z)
	}
}

// Memory: within one answer of Form no list is another one's.
func TestFormsListsAreOwn(t *testing.T) {
	cols := []int{0, 1, 2, 3}
	f := columns(16, 16, 0)
	for i := range f.Keys {
		f.Keys[i].Cols = cols // one list for all keys
	}
	x, _ := made(t, f)
	smear(cols, 9)
	g := x.Form()
	for i := range g.Keys {
		if !slices.Equal(g.Keys[i].Cols, []int{0, 1, 2, 3}) {
			t.Fatal(i, g.Keys[i].Cols)
		}
		_ = append(g.Keys[i].Cols, 7)
		smear(g.Keys[i].Cols, 9)
	}
}

// Memory: no call changes what it is handed, its spare room neither.
func TestArgumentsStay(t *testing.T) {
	spare := text("spare")
	f := roomyForm()
	good := row(num(1), text("a"), api.Value{Type: api.Null, Int: 3, Text: "x"}, truth(1), null())
	want := slices.Clone(good)
	r := roomy(good, spare)
	l := roomy([]api.Kept{{ID: 3, Row: r}}, api.Kept{ID: 55})
	of, low, high := roomy(row(text("a"), num(1)), spare), roomy(row(text("a")), spare), roomy(row(text("b")), spare)
	table.Check(f)
	table.Fits(f, r)
	x, _ := made(t, f)
	y, why := table.Load(f, l, 9)
	all(t, why)
	insert(t, x, r)
	all(t, x.Update(1, r), y.Update(3, r))
	for _, z := range []*table.Table{x, y} {
		z.Find(0, of)
		ranged(t, z, 0, api.Bounds{Low: low, High: high, LowIn: true})
		z.Insert(r)
		z.Insert(r[:2])
	}
	sameRow := func(got, want api.Row) {
		t.Helper()
		if !slices.Equal(got, want) || got[:len(got)+1][len(got)] != spare {
			t.Errorf("%v, not %v, or its spare room", got, want)
		}
	}
	sameRow(r, want)
	sameRow(of, row(text("a"), num(1)))
	sameRow(low, row(text("a")))
	sameRow(high, row(text("b")))
	if l[0].ID != 3 || l[:2][1].ID != 55 || !slices.Equal(l[0].Row, want) {
		t.Error(l)
	}
	if !sameForm(f, wide(9)) || f.Cols[:6][5].Name != "spare" || f.Keys[:7][6].Name != "spare" || f.Keys[0].Cols[:3][2] != 77 {
		t.Error(f)
	}
}

// Memory: rows that are changed by the caller behind Insert, Update and Load are not the table's; nor are those, or numbers, that it answered.
func TestRowsAreKept(t *testing.T) {
	r := rand.New(rand.NewSource(85))
	x, m := made(t, wide(30))
	for range 300 {
		a := someAct(r, x, someWide)
		b := a
		b.row = roomy(a.row, text("spare"))
		id, why := do(x, b)
		smear(b.row, text("smeared"))
		if wantID, want := doPlain(m, a); id != wantID || why != want {
			t.Fatal(a, why, want)
		}
		for id, row := range x.Scan() {
			smear(row, text("smeared"))
			got, _ := x.Get(id)
			smear(got, text("smeared"))
		}
		for key := range m.form.Keys {
			for _, k := range ranged(t, x, key, api.Bounds{}) {
				ids, _ := x.Find(key, keyOf(m.form.Keys[key], k.Row))
				smear(ids, 4711)
				smear(k.Row, text("smeared"))
			}
		}
		smearRows(x.Rows())
		same(t, x, m)
	}
	for mark := x.Mark(); mark >= 0; mark-- {
		both(t, x, m, act{what: "back", mark: mark})
		smearRows(x.Rows())
		same(t, x, m)
	}
}

// Memory: a row that was answered, and is taken back or deleted, is the caller's; one row may be handed in twice.
func TestOneRowTwice(t *testing.T) {
	x, _ := made(t, people(5))
	r := person(1, "a")
	insert(t, x, r)
	r[0], r[1] = num(2), text("b")
	insert(t, x, r)
	r[0], r[1] = num(3), null()
	all(t, x.Update(1, r))
	got, _ := x.Get(1)
	r[0] = num(9)
	all(t, x.Delete(1), x.Back(2))
	if !slices.Equal(got, person(3, "")) || !exactly(x.Rows(), []api.Kept{{ID: 1, Row: person(1, "a")}, {ID: 2, Row: person(2, "b")}}) {
		t.Error(got, x.Rows())
	}
}

// Memory: Load keeps nothing of its list.
func TestLoadKeepsNothing(t *testing.T) {
	l := []api.Kept{{ID: 2, Row: person(1, "a")}, {ID: 5, Row: person(2, "")}}
	x, why := table.Load(people(5), l, 7)
	all(t, why)
	was := told(x)
	smearRows(l)
	if told(x) != was {
		t.Error(told(x))
	}
}

// Memory: bounds that are changed by the caller behind Range, ahead of its being gone through, change nothing.
func TestBoundsAreKept(t *testing.T) {
	x, m := grown(t, 21, 200)
	b := api.Bounds{Low: roomy(row(text("a")), text("spare")), High: roomy(row(text("aé")), text("spare")), LowIn: true, HighIn: true}
	want := m.span(0, b)
	s, why := x.Range(0, b)
	all(t, why)
	smear(b.Low, text("zzz"))
	smear(b.High, text(""))
	if got := gone(s); len(want) == 0 || !exactly(got, want) || !exactly(gone(s), want) {
		t.Errorf("%v, not %v", got, want)
	}
}

// Memory: Find's answers share nothing, spare room too.
func TestNumbersAreNew(t *testing.T) {
	x, _ := made(t, people(5))
	for i := range int64(3) {
		insert(t, x, person(i, ""))
	}
	one, _ := x.Find(1, row(null()))
	other, _ := x.Find(1, row(null()))
	_ = append(one, 8)
	smear(one, 9)
	if again, _ := x.Find(1, row(null())); !slices.Equal(other, []uint64{1, 2, 3}) || !slices.Equal(again, other) {
		t.Error(other, again)
	}
}

// An answered value has nothing that its Type does not name; nor does such a thing play a part in keys.
func TestOnlyWhatIsNamed(t *testing.T) {
	loose := row(api.Value{Type: api.BigInt, Int: 1, Text: "x"}, api.Value{Type: api.Text, Int: 7, Text: "a"}, api.Value{Type: api.Null, Int: 3, Text: "y"},
		api.Value{Type: api.Bool, Int: 1, Text: "z"}, api.Value{Type: api.Text, Int: -1, Text: "b"})
	want := row(num(1), text("a"), null(), truth(1), text("b"))
	x, _ := made(t, wide(9))
	insert(t, x, loose)
	y, _ := made(t, wide(9))
	insert(t, y, row(num(5), text("q"), null(), null(), null()))
	all(t, y.Update(1, loose))
	z, why := table.Load(wide(9), []api.Kept{{ID: 1, Row: loose}}, 2)
	all(t, why)
	for _, x := range []*table.Table{x, y, z} {
		if r, _ := x.Get(1); !slices.Equal(r, want) {
			t.Error(r)
		}
		l := []api.Kept{{ID: 1, Row: want}}
		if !exactly(x.Rows(), l) || !exactly(gone(x.Scan()), l) || !exactly(ranged(t, x, 2, api.Bounds{}), l) {
			t.Error(x.Rows())
		}
		if _, why := x.Insert(want); why != api.ErrTwice {
			t.Error(why)
		}
		if ids, why := x.Find(0, row(loose[1], loose[0])); why != api.OK || len(ids) != 1 {
			t.Error(ids, why)
		}
		all(t, x.Update(1, want))
	}
}

// Nil and empty lists are alike.
func TestNilAndEmpty(t *testing.T) {
	x, _ := made(t, people(5))
	insert(t, x, person(1, ""))
	for _, r := range []api.Row{nil, {}} {
		if _, why := x.Insert(r); why != api.ErrArg || x.Update(1, r) != api.ErrArg {
			t.Error(why)
		}
		if _, why := x.Find(0, r); why != api.ErrArg {
			t.Error(why)
		}
		if l := ranged(t, x, 0, api.Bounds{Low: r, High: r}); len(l) != 1 {
			t.Error(l)
		}
	}
	for _, l := range [][]api.Kept{nil, {}} {
		if y, why := table.Load(people(5), l, 1); why != api.OK || y.Len() != 0 {
			t.Error(why)
		}
	}
	f := people(5)
	for _, f.Keys = range [][]api.Key{nil, {}} {
		if why := table.Check(f); why != api.ErrPrimary {
			t.Error(why)
		}
	}
}
