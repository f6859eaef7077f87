package snapshot_test

import (
	"bytes"
	"math"
	"testing"

	"lockstep/api"
	"lockstep/snapshot"
)

// sameness holds Same of two snapshots, either way, against what is to be told.
func sameness(t *testing.T, a, b api.Snap, want bool, what ...any) {
	t.Helper()
	if snapshot.Same(a, b) != want || snapshot.Same(b, a) != want {
		t.Errorf("%v: not %v of\n%s\nand\n%s", what, want, told(a), told(b))
	}
}

// partings are changes of one thing alone of the sample named keys, by which it is another snapshot.
func partings() map[string]func(s *api.Snap) {
	return map[string]func(s *api.Snap){
		"No":                   func(s *api.Snap) { s.No++ },
		"More":                 func(s *api.Snap) { s.More[0]++ },
		"more of More":         func(s *api.Snap) { s.More = append(s.More, 0) },
		"no More":              func(s *api.Snap) { s.More = nil },
		"no tables":            func(s *api.Snap) { s.Tables = nil },
		"a table more":         func(s *api.Snap) { s.Tables = append(s.Tables, small().Tables[0]) },
		"a table's Name":       func(s *api.Snap) { s.Tables[0].Form.Name += "w" },
		"Part":                 func(s *api.Snap) { s.Tables[0].Form.Part = 0 },
		"no Part":              func(s *api.Snap) { s.Tables[0].Form.Part = -1 },
		"Most":                 func(s *api.Snap) { s.Tables[0].Form.Most++ },
		"Next":                 func(s *api.Snap) { s.Tables[0].Next-- },
		"a column's Name":      func(s *api.Snap) { s.Tables[0].Form.Cols[4].Name = "size" },
		"a column's Type":      func(s *api.Snap) { s.Tables[0].Form.Cols[5].Type = api.BigInt },
		"a column's Most":      func(s *api.Snap) { s.Tables[0].Form.Cols[4].Most = 4 },
		"a column's NotNull":   func(s *api.Snap) { s.Tables[0].Form.Cols[4].NotNull = true },
		"a column less":        func(s *api.Snap) { s.Tables[0].Form.Cols = s.Tables[0].Form.Cols[:5] },
		"a column more":        func(s *api.Snap) { f := &s.Tables[0].Form; f.Cols = append(f.Cols, f.Cols[0]) },
		"columns turned about": func(s *api.Snap) { c := s.Tables[0].Form.Cols; c[0], c[1] = c[1], c[0] },
		"a key's Name":         func(s *api.Snap) { s.Tables[0].Form.Keys[2].Name = "fourth" },
		"a key's Unique":       func(s *api.Snap) { s.Tables[0].Form.Keys[2].Unique = false },
		"a key's column":       func(s *api.Snap) { s.Tables[0].Form.Keys[2].Cols[0] = 4 },
		"a key's columns":      func(s *api.Snap) { k := s.Tables[0].Form.Keys[0].Cols; k[0], k[1] = k[1], k[0] },
		"a key's column less":  func(s *api.Snap) { k := s.Tables[0].Form.Keys; k[1].Cols = k[1].Cols[:1] },
		"a key less":           func(s *api.Snap) { f := &s.Tables[0].Form; f.Keys = f.Keys[:2] },
		"keys turned about":    func(s *api.Snap) { k := s.Tables[0].Form.Keys; k[1], k[2] = k[2], k[1] },
		"a row's number":       func(s *api.Snap) { s.Tables[0].Rows[1].ID++ },
		"a row less":           func(s *api.Snap) { s.Tables[0].Rows = s.Tables[0].Rows[:2] },
		"no rows":              func(s *api.Snap) { s.Tables[0].Rows = nil },
		"rows turned about":    func(s *api.Snap) { r := s.Tables[0].Rows; r[0].Row, r[1].Row = r[1].Row, r[0].Row },
		"a number":             func(s *api.Snap) { s.Tables[0].Rows[1].Row[0].Int++ },
		"a DECIMAL":            func(s *api.Snap) { s.Tables[0].Rows[1].Row[1].Int++ },
		"a text":               func(s *api.Snap) { s.Tables[0].Rows[1].Row[2].Text += "t" },
		"a BOOLEAN":            func(s *api.Snap) { s.Tables[0].Rows[1].Row[3].Int = 1 },
		"a NULL":               func(s *api.Snap) { s.Tables[0].Rows[1].Row[4] = null() },
		"a value less":         func(s *api.Snap) { s.Tables[0].Rows[1].Row = s.Tables[0].Rows[1].Row[:5] },
		"a value more":         func(s *api.Snap) { r := &s.Tables[0].Rows[1].Row; *r = append(*r, null()) },
		"a number's type":      func(s *api.Snap) { s.Tables[0].Rows[0].Row[0] = dec(-70000) },
		"a DECIMAL's type":     func(s *api.Snap) { s.Tables[0].Rows[1].Row[5] = num(-1) },
		"a BOOLEAN's type":     func(s *api.Snap) { s.Tables[0].Rows[1].Row[3].Type = api.BigInt },
	}
}

// P12.1: snapshots that part in one thing alone are not the same; with the same change on both sides they are.
func TestSameParts(t *testing.T) {
	fresh := func() api.Snap { return plain(samples()["keys"]) }
	sameness(t, fresh(), fresh(), true, "as they are")
	for what, bend := range partings() {
		a, b := fresh(), fresh()
		bend(&b)
		sameness(t, a, b, false, what)
		bend(&a)
		sameness(t, a, b, true, what)
	}
}

// P12.1: the same of two changes, each of them on one side or on both.
func TestSamePartsOfTwo(t *testing.T) {
	for what, bend := range partings() {
		for other, also := range partings() {
			a, b, c := plain(samples()["keys"]), plain(samples()["keys"]), plain(samples()["keys"])
			try := func(do func()) (done bool) { // a change may be one that the other one leaves no room for
				defer func() { done = recover() == nil }()
				do()
				return true
			}
			if !try(func() { bend(&a); bend(&b); also(&b); bend(&c); also(&c) }) {
				continue
			}
			sameness(t, b, c, true, what, other)
			sameness(t, a, b, told(a) == told(b), what, other)
		}
	}
}

// P12.1: forms with Part of any number below 0 are the same in that.
func TestSamePart(t *testing.T) {
	below := []int{-1, -2, -3, -1 << 40, math.MinInt}
	at := func(part int) api.Snap {
		s := small()
		s.Tables[0].Form.Part = part
		return s
	}
	for _, a := range below {
		for _, b := range below {
			sameness(t, at(a), at(b), true, a, b)
		}
		for _, b := range []int{0, 1, 2, math.MaxInt} {
			sameness(t, at(a), at(b), false, a, b)
		}
		if got := encoded(t, at(a)); !bytes.Equal(got, encoded(t, small())) {
			t.Errorf("%d: %x", a, got)
		}
	}
	sameness(t, at(0), at(0), true)
	sameness(t, at(0), at(1), false)
}

// P12.1: values that rowcode has as the same, and those that it has not.
func TestSameValues(t *testing.T) {
	kinds := [][]api.Value{
		{null(), {Int: 1}, {Text: "x"}, {Int: -1, Text: "\xff"}},
		{num(1), {Type: api.BigInt, Int: 1, Text: "x"}},
		{num(0)}, {num(10000)}, {num(math.MinInt64)}, {num(math.MaxInt64)},
		{dec(1), {Type: api.Dec, Int: 1, Text: "x"}},
		{dec(10000)}, {dec(0)}, {dec(math.MinInt64)},
		{text("1"), {Type: api.Text, Int: 7, Text: "1"}},
		{text("")}, {text("a")}, {text("A")}, {text("a\x00")}, {text("\x00")}, {text("é")}, {text("e\u0301")},
		{yes(), {Type: api.Bool, Int: 1, Text: "x"}},
		{no(), {Type: api.Bool, Text: "FALSE"}},
	}
	with := func(v api.Value) api.Snap {
		return api.Snap{Tables: []api.Stored{{Form: people(2), Rows: []api.Kept{kept(1, num(1), v)}, Next: 2}}}
	}
	for i, k := range kinds {
		for j, l := range kinds {
			for _, a := range k {
				for _, b := range l {
					sameness(t, with(a), with(b), i == j, a, b)
				}
			}
		}
	}
}

// P12.1: Same tells of snapshots that can't be, too: each is the same as itself, and no other one.
func TestSameOfWhatCannotBe(t *testing.T) {
	var l []api.Snap
	for _, x := range flawedTables() {
		l = append(l, api.Snap{Tables: []api.Stored{x.table}})
	}
	l = append(l, api.Snap{No: 1 << 63}, api.Snap{No: 1<<64 - 1}, api.Snap{Tables: many(65)}, api.Snap{Tables: many(66)}, api.Snap{More: make([]byte, 1<<20+1)}, api.Snap{More: make([]byte, 1<<20+2)})
	for i := range l {
		for j := range l {
			if told(l[i]) != told(l[j]) || i == j {
				sameness(t, l[i], l[j], i == j, i, j)
			}
		}
	}
}

// Nil and empty lists are alike.
func TestSameOfNone(t *testing.T) {
	a := api.Snap{Tables: []api.Stored{{}}}
	b := api.Snap{Tables: []api.Stored{{Form: api.Table{Cols: []api.Column{}, Keys: []api.Key{}}, Rows: []api.Kept{}}}, More: []byte{}}
	sameness(t, a, b, true)
	sameness(t, api.Snap{}, api.Snap{Tables: []api.Stored{}, More: []byte{}}, true)
	a.Tables[0].Form.Keys = []api.Key{{}}
	b.Tables[0].Form.Keys = []api.Key{{Cols: []int{}}}
	a.Tables[0].Rows = []api.Kept{{}}
	b.Tables[0].Rows = []api.Kept{{Row: api.Row{}}}
	sameness(t, a, b, true)
	sameness(t, api.Snap{}, a, false)
	x, y := samples()["no rows"], samples()["no rows"]
	y.More, y.Tables[0].Rows = []byte{}, []api.Kept{}
	if !bytes.Equal(encoded(t, x), encoded(t, y)) {
		t.Error("nil and empty lists have other bytes")
	}
}
