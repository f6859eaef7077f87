package table_test

import (
	"cmp"
	"fmt"
	"iter"
	"math/rand"
	"slices"
	"strings"
	"testing"

	"lockstep/api"
	"lockstep/table"
	"lockstep/value"
)

func num(n int64) api.Value      { return api.Value{Type: api.BigInt, Int: n} }
func dec(n int64) api.Value      { return api.Value{Type: api.Dec, Int: n} }
func text(s string) api.Value    { return api.Value{Type: api.Text, Text: s} }
func truth(n int64) api.Value    { return api.Value{Type: api.Bool, Int: n} }
func null() api.Value            { return api.Value{} }
func row(v ...api.Value) api.Row { return v }

// people is the table of the chapter's examples.
func people(most int) api.Table {
	return api.Table{
		Name: "p",
		Cols: []api.Column{{Name: "id", Type: api.BigInt, NotNull: true}, {Name: "name", Type: api.Text, Most: 5}},
		Keys: []api.Key{{Name: "primary", Cols: []int{0}, Unique: true}, {Name: "name", Cols: []int{1}, Unique: true}},
		Part: -1, Most: most,
	}
}

// person is a row of people: without a name NULL stands there.
func person(id int64, name string) api.Row {
	if name == "" {
		return row(num(id), null())
	}
	return row(num(id), text(name))
}

// wide has a column of each type, and keys of each kind: of several columns, in another order, with and without NULLs, Unique or not.
func wide(most int) api.Table {
	return api.Table{
		Name: "w",
		Cols: []api.Column{
			{Name: "a", Type: api.BigInt, NotNull: true}, {Name: "b", Type: api.Text, Most: 4, NotNull: true},
			{Name: "c", Type: api.Dec}, {Name: "d", Type: api.Bool}, {Name: "e", Type: api.Text, Most: 2},
		},
		Keys: []api.Key{
			{Name: "k0", Cols: []int{1, 0}, Unique: true}, {Name: "k1", Cols: []int{2}}, {Name: "k2", Cols: []int{3, 2, 4}, Unique: true},
			{Name: "k3", Cols: []int{4, 0}}, {Name: "k4", Cols: []int{0, 1, 2, 3}}, {Name: "k5", Cols: []int{4}, Unique: true},
		},
		Part: 0, Most: most,
	}
}

// someWide is a row of wide, out of few values, so that rows clash often.
func someWide(r *rand.Rand) api.Row {
	of := [][]api.Value{
		{num(-1), num(0), num(int64(r.Intn(12)))}, {text(""), text("a"), text("aé")},
		{null(), null(), dec(-10000), dec(15000)}, {null(), truth(0), truth(1)}, {null(), null(), null(), text("x"), text("é")},
	}
	out := make(api.Row, len(of))
	for i, l := range of {
		out[i] = l[r.Intn(len(l))]
	}
	return out
}

// The model tells the promises in another way than the table does: rows in one list as they came, which is looked through from end to end; and of all marks how the whole was at them.
type model struct {
	form api.Table
	state
	past []state
}

type state struct {
	list []api.Kept
	next uint64
}

func (s state) copied() state { return state{slices.Clone(s.list), s.next} }

func (m *model) clone() *model {
	c := &model{form: m.form, state: m.copied()}
	for _, s := range m.past {
		c.past = append(c.past, s.copied())
	}
	return c
}

// bare is a row without what the types of its values do not name.
func bare(r api.Row) api.Row {
	out := make(api.Row, len(r))
	for i, v := range r {
		switch v.Type {
		case api.Text:
			out[i] = text(v.Text)
		case api.BigInt, api.Dec, api.Bool:
			out[i] = api.Value{Type: v.Type, Int: v.Int}
		}
	}
	return out
}

func clash(k api.Key, a, b api.Row) bool {
	for _, c := range k.Cols {
		if a[c].Type == api.Null || b[c].Type == api.Null || !value.Same(a[c], b[c]) {
			return false
		}
	}
	return k.Unique
}

func (m *model) at(id uint64) int {
	return slices.IndexFunc(m.list, func(k api.Kept) bool { return k.ID == id })
}

// twice tells whether a row clashes with one of another number.
func (m *model) twice(id uint64, r api.Row) bool {
	for _, k := range m.form.Keys {
		for _, x := range m.list {
			if x.ID != id && clash(k, x.Row, r) {
				return true
			}
		}
	}
	return false
}

func (m *model) insert(r api.Row) (uint64, api.Errno) {
	if why := plainFits(m.form, r); why != api.OK {
		return 0, why
	}
	if len(m.list) == m.form.Most || m.next == 1<<64-1 {
		return 0, api.ErrFull
	}
	if m.twice(0, r) {
		return 0, api.ErrTwice
	}
	m.past = append(m.past, m.copied())
	m.list = append(m.list, api.Kept{ID: m.next, Row: bare(r)})
	m.next++
	return m.next - 1, api.OK
}

func (m *model) update(id uint64, r api.Row) api.Errno {
	i := m.at(id)
	if i < 0 {
		return api.ErrRow
	}
	if why := plainFits(m.form, r); why != api.OK {
		return why
	}
	if m.twice(id, r) {
		return api.ErrTwice
	}
	m.past = append(m.past, m.copied())
	m.list[i].Row = bare(r)
	return api.OK
}

func (m *model) delete(id uint64) api.Errno {
	i := m.at(id)
	if i < 0 {
		return api.ErrRow
	}
	m.past = append(m.past, m.copied())
	m.list = slices.Delete(m.list, i, i+1)
	return api.OK
}

func (m *model) back(mark int) api.Errno {
	if mark < 0 || mark > len(m.past) {
		return api.ErrState
	}
	if mark < len(m.past) {
		m.state, m.past = m.past[mark], m.past[:mark]
	}
	return api.OK
}

func keyOf(k api.Key, r api.Row) api.Row {
	var key api.Row
	for _, c := range k.Cols {
		key = append(key, r[c])
	}
	return key
}

func (m *model) find(key int, of api.Row) []uint64 {
	var ids []uint64
	for _, k := range m.list {
		if slices.EqualFunc(keyOf(m.form.Keys[key], k.Row), of, value.Same) {
			ids = append(ids, k.ID)
		}
	}
	slices.Sort(ids)
	return ids
}

func (m *model) rows() []api.Kept {
	l := slices.Clone(m.list)
	slices.SortFunc(l, func(a, b api.Kept) int { return cmp.Compare(a.ID, b.ID) })
	return l
}

// holds: side is 1 of Low, -1 of High.
func holds(key, end api.Row, in bool, side int) bool {
	if len(end) == 0 {
		return true
	}
	c := value.Rows(key[:min(len(key), len(end))], end)
	return c == side || in && c == 0
}

func (m *model) span(key int, b api.Bounds) []api.Kept {
	k := m.form.Keys[key]
	var l []api.Kept
	for _, x := range m.rows() {
		if holds(keyOf(k, x.Row), b.Low, b.LowIn, 1) && holds(keyOf(k, x.Row), b.High, b.HighIn, -1) {
			l = append(l, x)
		}
	}
	slices.SortStableFunc(l, func(a, b api.Kept) int { return value.Rows(keyOf(k, a.Row), keyOf(k, b.Row)) })
	return l
}

// exactly: the same, to the last field.
func exactly(a, b []api.Kept) bool {
	return slices.EqualFunc(a, b, func(a, b api.Kept) bool { return a.ID == b.ID && slices.Equal(a.Row, b.Row) })
}

func gone(s iter.Seq2[uint64, api.Row]) []api.Kept {
	var l []api.Kept
	for id, r := range s {
		l = append(l, api.Kept{ID: id, Row: r})
	}
	return l
}

func ranged(t *testing.T, x *table.Table, key int, b api.Bounds) []api.Kept {
	t.Helper()
	s, why := x.Range(key, b)
	if why != api.OK || s == nil {
		t.Fatalf("Range(%d, %v): %v", key, b, why)
	}
	return gone(s)
}

// same holds all that a table tells, but within bounds, against the model.
func same(t *testing.T, x *table.Table, m *model) {
	t.Helper()
	if x.Len() != len(m.list) || x.Next() != m.next || x.Mark() != len(m.past) {
		t.Fatalf("Len %d, Next %d, Mark %d; not %d, %d, %d", x.Len(), x.Next(), x.Mark(), len(m.list), m.next, len(m.past))
	}
	want := m.rows()
	if got := x.Rows(); !exactly(got, want) {
		t.Fatalf("Rows: %v, not %v", got, want)
	}
	if got := gone(x.Scan()); !exactly(got, want) {
		t.Fatalf("Scan: %v, not %v", got, want)
	}
	for i, k := range m.form.Keys {
		if got, want := ranged(t, x, i, api.Bounds{}), m.span(i, api.Bounds{}); !exactly(got, want) {
			t.Fatalf("Range of key %d: %v, not %v", i, got, want)
		}
		for _, r := range want {
			sameFind(t, x, m, i, keyOf(k, r.Row))
		}
	}
	for _, r := range want {
		sameGet(t, x, m, r.ID)
	}
	for _, id := range []uint64{0, 1, 2, m.next - 1, m.next, m.next + 1, 1 << 63} {
		sameGet(t, x, m, id)
	}
}

func sameFind(t *testing.T, x *table.Table, m *model, key int, of api.Row) {
	t.Helper()
	if got, why := x.Find(key, of); why != api.OK || !slices.Equal(got, m.find(key, of)) {
		t.Fatalf("Find(%d, %v): %v %v, not %v", key, of, got, why, m.find(key, of))
	}
}

func sameGet(t *testing.T, x *table.Table, m *model, id uint64) {
	t.Helper()
	var want api.Row
	err := api.ErrRow
	if i := m.at(id); i >= 0 {
		want, err = m.list[i].Row, api.OK
	}
	if got, why := x.Get(id); why != err || !slices.Equal(got, want) {
		t.Fatalf("Get(%d): %v %v, not %v %v", id, got, why, want, err)
	}
}

// act is a call that may change a table.
type act struct {
	what string
	id   uint64
	row  api.Row
	mark int
}

// do makes a call on a table: its answer.
func do(x *table.Table, a act) (uint64, api.Errno) {
	switch a.what {
	case "insert":
		return x.Insert(a.row)
	case "update":
		return 0, x.Update(a.id, a.row)
	case "delete":
		return 0, x.Delete(a.id)
	case "back":
		return 0, x.Back(a.mark)
	}
	x.Forget()
	return 0, api.OK
}

// doPlain makes it on the model.
func doPlain(m *model, a act) (uint64, api.Errno) {
	switch a.what {
	case "insert":
		return m.insert(a.row)
	case "update":
		return 0, m.update(a.id, a.row)
	case "delete":
		return 0, m.delete(a.id)
	case "back":
		return 0, m.back(a.mark)
	}
	m.past = nil
	return 0, api.OK
}

// both makes a call on a table and on its model, and holds the answers against each other.
func both(t *testing.T, x *table.Table, m *model, a act) api.Errno {
	t.Helper()
	id, why := do(x, a)
	if wantID, want := doPlain(m, a); id != wantID || why != want {
		t.Fatalf("%v: %d %v, not %d %v, of %v", a, id, why, wantID, want, m.rows())
	}
	return why
}

func made(t *testing.T, f api.Table) (*table.Table, *model) {
	t.Helper()
	x, why := table.New(f)
	if why != api.OK || x == nil {
		t.Fatalf("New(%v): %v", f, why)
	}
	return x, &model{form: f, state: state{next: 1}}
}

func insert(t *testing.T, x *table.Table, r api.Row) uint64 {
	t.Helper()
	id, why := x.Insert(r)
	if why != api.OK {
		t.Fatalf("Insert(%v): %v", r, why)
	}
	return id
}

func all(t *testing.T, l ...api.Errno) {
	t.Helper()
	for i, why := range l {
		if why != api.OK {
			t.Fatalf("call %d: %v", i, why)
		}
	}
}

// told is all that a table tells, as a text.
func told(x *table.Table) string {
	var b strings.Builder
	f := x.Form()
	fmt.Fprintln(&b, f, x.Len(), x.Next(), x.Mark(), x.Rows(), gone(x.Scan()))
	for i := range f.Keys {
		s, why := x.Range(i, api.Bounds{})
		fmt.Fprintln(&b, gone(s), why)
		for _, k := range x.Rows() {
			ids, why := x.Find(i, keyOf(f.Keys[i], k.Row))
			fmt.Fprint(&b, ids, why)
		}
	}
	for id := range x.Next() + 2 {
		if id > 100 {
			break
		}
		r, why := x.Get(id)
		fmt.Fprint(&b, r, why)
	}
	return b.String()
}

// someAct is a call at random; rows out of few, so that there are clashes, numbers near those that are there.
func someAct(r *rand.Rand, x *table.Table, some func(*rand.Rand) api.Row) act {
	a := act{id: uint64(r.Intn(int(min(x.Next(), 1000)) + 1)), row: some(r)}
	switch n := r.Intn(20); {
	case n < 8:
		a.what = "insert"
	case n < 13:
		a.what = "update"
	case n < 17:
		a.what = "delete"
	case n < 19:
		a.what, a.mark = "back", r.Intn(x.Mark()+3)-1
	default:
		a.what = "forget"
	}
	if r.Intn(12) == 0 {
		a.row = a.row[:r.Intn(len(a.row))]
	}
	return a
}
