package snapshot_test

import (
	"encoding/binary"
	"fmt"
	"hash/fnv"
	"math/big"
	"slices"
	"strings"
	"testing"

	"lockstep/api"
	"lockstep/simfs"
	"lockstep/snapshot"
)

func num(n int64) api.Value { return api.Value{Type: api.BigInt, Int: n} }

func dec(n int64) api.Value { return api.Value{Type: api.Dec, Int: n} }

func text(s string) api.Value { return api.Value{Type: api.Text, Text: s} }

func null() api.Value { return api.Value{} }

func yes() api.Value { return api.Value{Type: api.Bool, Int: 1} }

func no() api.Value { return api.Value{Type: api.Bool} }

func row(l ...api.Value) api.Row { return l }

func kept(id uint64, l ...api.Value) api.Kept { return api.Kept{ID: id, Row: l} }

// all: none of these was refused.
func all(t *testing.T, whys ...api.Errno) {
	t.Helper()
	for i, why := range whys {
		if why != api.OK {
			t.Fatalf("call %d: %v", i, why)
		}
	}
}

func hashed(b []byte) []byte {
	h := fnv.New64a()
	h.Write(b)
	return binary.BigEndian.AppendUint64(nil, h.Sum64())
}

// valueBytes is a value's bytes as chapter 2 has them.
func valueBytes(v api.Value) []byte {
	switch v.Type {
	case api.Null:
		return []byte{1}
	case api.Text:
		return slices.Concat([]byte{3}, []byte(strings.ReplaceAll(v.Text, "\x00", "\x00\xff")), []byte{0, 0})
	case api.Bool:
		return []byte{4, byte(v.Int)}
	}
	n := big.NewInt(v.Int)
	if v.Type == api.BigInt {
		n.Mul(n, big.NewInt(10000))
	}
	n.Add(n, new(big.Int).Lsh(big.NewInt(1), 79))
	return slices.Concat([]byte{2}, n.FillBytes(make([]byte, 10)), []byte{byte(v.Type)})
}

// lines is the rows of which the document lets a snapshot's bytes be made, the last of them that of More.
func lines(s api.Snap) []api.Row {
	truth := func(is bool) api.Value {
		if is {
			return yes()
		}
		return no()
	}
	l := []api.Row{{text("lockstep snapshot"), num(int64(s.No)), num(int64(len(s.Tables)))}}
	for _, x := range s.Tables {
		part := x.Form.Part
		if part < 0 {
			part = -1
		}
		l = append(l, row(text(x.Form.Name), num(int64(part)), num(int64(x.Form.Most)), num(int64(len(x.Form.Cols))), num(int64(len(x.Form.Keys))), num(int64(x.Next)), num(int64(len(x.Rows)))))
		for _, c := range x.Form.Cols {
			l = append(l, row(text(c.Name), num(int64(c.Type)), num(int64(c.Most)), truth(c.NotNull)))
		}
		for _, k := range x.Form.Keys {
			r := row(text(k.Name), truth(k.Unique))
			for _, c := range k.Cols {
				r = append(r, num(int64(c)))
			}
			l = append(l, r)
		}
		for _, k := range x.Rows {
			l = append(l, row(num(int64(k.ID))), slices.Clone(k.Row))
		}
	}
	return append(l, row(text("more"), num(int64(len(s.More)))))
}

// laid is rows as bytes, and what stands behind them, without a sum.
func laid(l []api.Row, more []byte) []byte {
	var b []byte
	for _, r := range l {
		for _, v := range r {
			b = append(b, valueBytes(v)...)
		}
		b = append(b, 0)
	}
	return append(b, more...)
}

// sealed is bytes with their sum behind them.
func sealed(b []byte) []byte { return append(slices.Clone(b), hashed(b)...) }

// bytesOf is a snapshot's bytes as the document has them.
func bytesOf(s api.Snap) []byte { return sealed(laid(lines(s), s.More)) }

func encoded(t *testing.T, s api.Snap) []byte {
	t.Helper()
	b, why := snapshot.Encode(s)
	if why != api.OK {
		t.Fatalf("Encode: %v of %s", why, told(s))
	}
	return b
}

// refused: Decode tells that these bytes are no snapshot.
func refused(t *testing.T, b []byte, what ...any) {
	t.Helper()
	if s, why := snapshot.Decode(b); why != api.ErrSnap || told(s) != told(api.Snap{}) {
		t.Errorf("%v: %v %s", what, why, told(s))
	}
}

// told is all that a snapshot says, as it stands there; lists that are nil and empty are alike.
func told(s api.Snap) string {
	var w strings.Builder
	fmt.Fprintf(&w, "%d %s", s.No, short(s.More))
	for _, x := range s.Tables {
		fmt.Fprintf(&w, "\n%q part %d most %d next %d cols %+v keys %+v", x.Form.Name, x.Form.Part, x.Form.Most, x.Next, x.Form.Cols, x.Form.Keys)
		for _, k := range x.Rows {
			fmt.Fprintf(&w, "\n %d %#v", k.ID, k.Row)
		}
	}
	return w.String()
}

// short writes long bytes by their length, their ends and their sum.
func short(b []byte) string {
	if len(b) > 200 {
		return fmt.Sprintf("%d bytes %q .. %q %x", len(b), b[:9], b[len(b)-9:], hashed(b))
	}
	return fmt.Sprintf("%q", b)
}

// plain is a snapshot as Decode is to tell it: values without what their types do not name, Part of no column as -1. It is new memory.
func plain(s api.Snap) api.Snap {
	out := api.Snap{No: s.No, More: slices.Clone(s.More)}
	for _, x := range s.Tables {
		y := api.Stored{Form: x.Form, Next: x.Next}
		y.Form.Part = max(x.Form.Part, -1)
		y.Form.Cols = slices.Clone(x.Form.Cols)
		y.Form.Keys = nil
		for _, k := range x.Form.Keys {
			k.Cols = slices.Clone(k.Cols)
			y.Form.Keys = append(y.Form.Keys, k)
		}
		for _, k := range x.Rows {
			r := row()
			for _, v := range k.Row {
				r = append(r, plainValue(v))
			}
			y.Rows = append(y.Rows, api.Kept{ID: k.ID, Row: r})
		}
		out.Tables = append(out.Tables, y)
	}
	return out
}

func plainValue(v api.Value) api.Value {
	switch v.Type {
	case api.Null:
		return null()
	case api.Text:
		return text(v.Text)
	case api.BigInt, api.Dec, api.Bool:
		v.Text = ""
	}
	return v
}

// oneColumn is a table of numbers.
func oneColumn(name string, most int) api.Table {
	return api.Table{Name: name, Cols: []api.Column{{Name: "id", Type: api.BigInt, NotNull: true}}, Keys: []api.Key{{Name: "a", Cols: []int{0}, Unique: true}}, Part: -1, Most: most}
}

// people is a table of numbers and names, of which none is there twice.
func people(most int) api.Table {
	return api.Table{
		Name: "people",
		Cols: []api.Column{{Name: "id", Type: api.BigInt, NotNull: true}, {Name: "name", Type: api.Text, Most: 5}},
		Keys: []api.Key{{Name: "primary", Cols: []int{0}, Unique: true}, {Name: "name", Cols: []int{1}, Unique: true}},
		Part: 0, Most: most,
	}
}

// wide is a table with columns of each type, and keys of several columns, also of others than the first ones.
func wide(name string, part int) api.Table {
	return api.Table{
		Name: name,
		Cols: []api.Column{{Name: "a", Type: api.BigInt, NotNull: true}, {Name: "b", Type: api.Dec, NotNull: true}, {Name: "c", Type: api.Text, Most: 4096, NotNull: true}, {Name: "d", Type: api.Bool, NotNull: true}, {Name: "Größe", Type: api.Text, Most: 3}, {Name: "f", Type: api.Dec}},
		Keys: []api.Key{{Name: "primary", Cols: []int{3, 0, 2, 1}, Unique: true}, {Name: "second", Cols: []int{4, 5}}, {Name: "third", Cols: []int{5}, Unique: true}},
		Part: part, Most: 100,
	}
}

// small is the snapshot of the stage's own test.
func small() api.Snap {
	return api.Snap{No: 7, Tables: []api.Stored{{Form: oneColumn("p", 3), Rows: []api.Kept{kept(2, num(5))}, Next: 4}}, More: []byte("x")}
}

// samples are snapshots that can be, with the edges that the chapter names.
func samples() map[string]api.Snap {
	stuffed := []api.Kept{
		{ID: 1, Row: row(api.Value{Type: api.BigInt, Int: -7, Text: "x"}, api.Value{Type: api.Dec, Int: 7, Text: "y"}, api.Value{Type: api.Text, Int: 9, Text: "t"}, api.Value{Type: api.Bool, Int: 1, Text: "z"}, api.Value{Int: 4, Text: "null"}, api.Value{Text: "\xff"})},
		{ID: 5, Row: row(num(-7), dec(7), text("t"), no(), text("é\x00"), dec(-1))},
		{ID: 1<<63 + 9, Row: row(num(-1<<63), dec(1<<63-1), text(""), yes(), text("\x00\xc3\xa9"), null())},
	}
	return map[string]api.Snap{
		"none":             {},
		"no tables":        {No: 1<<63 - 1, More: []byte{0}},
		"no rows":          {No: 3, Tables: []api.Stored{{Form: oneColumn("p", 1), Next: 1}, {Form: people(4096), Next: 1 << 63}}},
		"small":            small(),
		"names":            {Tables: []api.Stored{{Form: oneColumn("more", 9), Rows: []api.Kept{kept(1, num(1)), kept(2, num(0))}, Next: 3}, {Form: oneColumn("lockstep snapshot", 9), Next: 9}, {Form: oneColumn(strings.Repeat("é", 16), 9), Next: 9}}},
		"keys":             {No: 1, Tables: []api.Stored{{Form: wide("w", 3), Rows: stuffed, Next: 1<<64 - 1}}, More: []byte("\x00")},
		"part below 0":     {No: 2, Tables: []api.Stored{{Form: wide("v", -1), Rows: stuffed[1:], Next: 1<<63 + 10}, {Form: wide("w", -2), Next: 2}, {Form: wide("x", -1<<63), Next: 2}}},
		"next and id":      {No: 4, Tables: []api.Stored{{Form: oneColumn("p", 3), Rows: []api.Kept{kept(1<<63-1, num(1)), kept(1<<63, num(2)), kept(1<<64-2, num(3))}, Next: 1<<64 - 1}}},
		"more of rows":     {No: 5, Tables: []api.Stored{{Form: oneColumn("p", 3), Next: 1}}, More: bytesOf(small())},
		"more of more":     {No: 6, More: laid([]api.Row{{text("more"), num(0)}}, make([]byte, 8))},
		"more with a sum":  {No: 6, More: hashed(laid(lines(api.Snap{No: 6}), nil))},
		"full":             {No: 8, Tables: []api.Stored{{Form: people(3), Rows: []api.Kept{kept(1, num(1), null()), kept(2, num(2), null()), kept(3, num(3), text("abcde"))}, Next: 4}}},
		"a row like bytes": {No: 9, Tables: []api.Stored{{Form: people(3), Rows: []api.Kept{kept(1, num(1), text("\x00\x00")), kept(2, num(2), text("more"))}, Next: 4}}},
	}
}

func disk(t *testing.T, quota int) *simfs.FS {
	t.Helper()
	f, why := simfs.New(quota)
	all(t, why)
	return f
}

// lay puts a file on the disk whose bytes and name stand fast.
func lay(t *testing.T, f *simfs.FS, name string, b []byte) {
	t.Helper()
	all(t, f.Create(name), f.Append(name, b), f.Sync(name), f.SyncNames())
}

func fileOf(name string, no uint64) string { return fmt.Sprintf("%s.%016x", name, no) }

// of is a snapshot of a number that differs from those of other numbers.
func of(no uint64) api.Snap {
	return api.Snap{No: no, Tables: []api.Stored{{Form: oneColumn("p", 3), Rows: []api.Kept{kept(no+1, num(int64(no)))}, Next: no + 2}}, More: []byte(strings.Repeat("m", int(no%5)))}
}

// stands is all that a disk tells, and how many changes are left till it stops.
func stands(f *simfs.FS) string {
	var s strings.Builder
	for _, e := range f.Image() {
		fmt.Fprintf(&s, "%s %s %d; ", e.Name, short(e.B), e.Fast)
	}
	left := 0
	for c := f.Clone(); left < 40 && c.SyncNames() == api.OK; left++ {
	}
	fmt.Fprintf(&s, "open %d left %d", f.Open(), left)
	return s.String()
}
